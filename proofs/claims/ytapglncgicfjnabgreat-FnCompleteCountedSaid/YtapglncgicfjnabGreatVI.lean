/- impl.field.continued, impl.mapped at it, slices.Concat of slices of lists, impl.field.completeTables, by contracts. -/
import Derived.Test.YtapglncgicfjnabGreatVH
import Derived.Test.YtapglncgicfjnabGreatKN
import Derived.Deep.RegionHeld3
import Derived.Deep.RegionLaw
namespace Go.Proofs.YtapglncgicfjnabGreat
open Go.RowKit
theorem step_append_ownEH {P : Program} {ops : Array Oper} {o : Oper} {a : Act} {w : World} {K : Act → World → Prop} {Q : Exit → Act → World → Prop} {E : Prop}
    (hg : o.guard = none) (s x : Operand) (t : TypeId) (hop : o.op = Op.call { callee := Callee.builtin Builtin.append, args := #[s, x], argTypes := #[t, t] })
    (base : Nat) (e : TypeId) (i : TypeInfo) (z : Value) (size bytes : Nat) (h1 : P.underlying t = some (.slice e)) (h2 : P.info? e = some i) (h3 : i.zero = some z) (h4 : i.size = size) (h5 : i.bytes = bytes) (h6 : z.cells.size = size) (h7 : 0 < size)
    (v : Value) (n : Nat) (xs : List Value) (hs : a.eval s = v) (hown : w.ownsRow base e size v n xs)
    (ad : Addr) (m c : Nat) (news : List Value) (hx : a.eval x = .slice (some ad) m c) (hn : news.length = m * size) (hc : ∀ j u, news[j]? = some u → w.cell? (ad.add j) = some u) (h1c : ∀ u ∈ news, u.oneCell' = true)
    (b1 : n + m ≤ maxLen) (b2 : (n + m) * bytes ≤ 140737488355328) (hbase : base ≤ w.heap.size)
    (hK : ∀ v' w', w'.ownsRow base e size v' (n + m) (xs ++ news) → w.grownBy w' v.ownBlock → K (a.put o.dst v') w') :
    if Region.wanted o (yielded ops a.tmps) = true then Oper.wp P o a w K Q else E := by
  have hw : Region.wanted o (yielded ops a.tmps) = true := by simp [Region.wanted, hg]
  rw [if_pos hw]
  obtain ⟨v', w', hrun, r1, r2, _⟩ := run_append_own (P := P) w base t o.type e i z size bytes h1 h2 h3 h4 h5 h6 h7 v n xs hown ad m c news hn hc h1c b1 b2 hbase
  unfold Oper.wp
  simp [execOp, hop, resolve, invoke, builtin, hs, hx, hrun, Result.andThen]
  exact hK v' w' r1 r2
theorem elc_congrH {q : Int} {f f' : Nat → Int} {n : Nat} (h : ∀ i, i < n → f i = f' i) : elc q f n = elc q f' n := by
  induction n with
  | zero => rfl
  | succ n ih => rw [elc, elc, ih fun i hi => h i (by omega), h n (by omega)]
theorem elc_appH (q : Int) (f : Nat → Int) (n k : Nat) : elc q f (n + k) = elc q f n ++ elc q (fun i => f (n + i)) k := by
  induction k with
  | zero => simp [elc]
  | succ k ih => rw [show n + (k + 1) = n + k + 1 by omega, elc, elc, ih, List.append_assoc]
theorem blk_newsH {w : World} {b : Nat} {q a : Int} (h : w.heap[b]? = some (eblk q a)) : ∀ j u, (el7 q a)[j]? = some u → w.cell? ((⟨b, 0, none⟩ : Addr).add j) = some u := by
  intro j u hj
  rw [add_off, Nat.zero_add, cell_of_row w b j _ _ _ h, ← hj]
  simp [el7]
theorem el7_oneH (q a : Int) : ∀ u ∈ el7 q a, u.oneCell' = true := by
  intro u hu
  simp only [el7, List.mem_cons, List.not_mem_nil, or_false] at hu
  rcases hu with rfl | rfl | rfl | rfl | rfl | rfl | rfl <;> rfl
set_option maxHeartbeats 1000000 in
/-- slices.Clone of elements. -/
theorem cloneO (q : Int) (v : Value) (f : Nat → Int) (n : Nat) (w : World) (hv : Se w v q f n) (hn : n ≤ 1000) :
    Calls Tryz.prog 188 #[v] w fun e w' => ∃ g cap, e = .returned (.slice (some ⟨g, 0, none⟩) n cap) ∧ w.heap.size ≤ g ∧ w'.ownsRow w.heap.size 70 7 (.slice (some ⟨g, 0, none⟩) n cap) n (elc q f n) ∧ Below w.heap.size w w' := by
  obtain ⟨i0, hi, iz0, iz1, iz2⟩ := info_parts Tryz.infoE
  obtain ⟨g, cp, rfl, hg, he⟩ := hv
  have q22 : ∀ (w : World) (a : Option Addr) (n c n' c' : Nat), (binOp .eql 65 (.slice a n c) (.slice none n' c')).run Tryz.prog w = .ok (.bool a.isNone) w := fun w a n c n' c' => Lib.run_eql_slice_nil w _ _ a n c n' c' Tryz.underlying65
  have H0 : Hid ((w.alloc (.cells #[] 70)).ownsRow w.heap.size 70 7 (.slice (some ⟨w.heap.size, 0, none⟩) 0 0) 0 []) := Lib.hid (World.ownsRow_lit (base := w.heap.size) (e := 70) (size := 7) w #[] 0 (Nat.le_refl _) (by unfold maxLen; omega) rfl)
  have HE := Lib.hid (elc_cells (he.below (w' := w.alloc (.cells #[] 70)) (B := w.heap.size) (by (repeat' (first | (with_reducible assumption) | (with_reducible exact Below.refl _ _) | (with_reducible refine below_drewN ?_ _) | (with_reducible refine Below.drew ?_) | (with_reducible refine Below.alloc ?_ ?_ _) | (with_reducible refine Below.setCell ?_ ?_ _) | (with_reducible refine Below.trans ?_ (Below.mono (by assumption) ?_)) | (with_reducible exact Nat.le_refl _) | (with_reducible assumption) | omega | (simp; omega) | (simp; done)))) hg))
  clear he
  go_enter Tryz.func188, Tryz.ntmps188
  go_wp2_with (at_builtin; refine wpList_append_own _ rfl _ _ 65 rfl w.heap.size 70 i0 (.agg #[.int .i64 0, .int .i64 0, .int .i64 0, .int .i64 0, .int .i64 0, .int .i64 0, .int .i64 0]) 7 56 Tryz.underlying65 hi iz0 iz1 iz2 rfl (by decide) _ _ _ rfl H0.out ⟨g, 0, none⟩ n cp (elc q f n) rfl (elc_len _ _ _) HE.out (elc_one _ _ _) (by unfold maxLen; omega) (by omega) (by simp) ?_)
  intro v1 w1 hown hgrow hnil
  have hown' : w1.ownsRow w.heap.size 70 7 v1 n (elc q f n) := by simpa using hown
  have HB1 : Hid (Below w.heap.size w w1) := Lib.hid (Below.grown (by (repeat' (first | (with_reducible assumption) | (with_reducible exact Below.refl _ _) | (with_reducible refine below_drewN ?_ _) | (with_reducible refine Below.drew ?_) | (with_reducible refine Below.alloc ?_ ?_ _) | (with_reducible refine Below.setCell ?_ ?_ _) | (with_reducible refine Below.trans ?_ (Below.mono (by assumption) ?_)) | (with_reducible exact Nat.le_refl _) | (with_reducible assumption) | omega | (simp; omega) | (simp; done)))) hgrow (by simp) (fun g hg => (World.ownsRow.lt H0.out g hg).1))
  have hform : ∃ g1 cap1, v1 = .slice (some ⟨g1, 0, none⟩) n cap1 ∧ w.heap.size ≤ g1 := by
    rcases hown'.2 with ⟨hx, _⟩ | ⟨g1, cap1, cur, hx, hB, hh, hc, _, hsz, _⟩
    · exact (hnil hx).elim
    · exact ⟨g1, cap1, hx, hB⟩
  obtain ⟨g1, cap1, rfl, hB1⟩ := hform
  have HOWN := Lib.hid hown'
  clear hown hown' hgrow hnil
  go_wp2
  go_ret
  exact ⟨_, _, rfl, hB1, HOWN.out, HB1.out⟩
theorem owns_keptS {w w' : World} {B B' n sz : Nat} {v : Value} {xs : List Value} {T : TypeId} (h : w.ownsRow B T sz v n xs) (hB : B' ≤ B) (hk : ∀ g, v.ownBlock = some g → w'.heap[g]? = w.heap[g]?) : w'.ownsRow B' T sz v n xs := by
  refine ⟨h.1, ?_⟩
  rcases h.2 with hn | ⟨g, cap, cur, rfl, hb, hgg, rest⟩
  · exact .inl hn
  · exact .inr ⟨g, cap, cur, rfl, by omega, (hk g rfl).trans hgg, rest⟩
theorem own_formE {w : World} {B n : Nat} {v : Value} {xs : List Value} (h : w.ownsRow B 70 7 v n xs) (hn : 0 < n) : ∃ g c, v = .slice (some ⟨g, 0, none⟩) n c := by
  rcases h.2 with ⟨_, h0⟩ | ⟨g, cap, cur, rfl, _⟩
  · omega
  · exact ⟨_, _, rfl⟩
theorem elc_snoc (q : Int) (t : List Int) (y : Int) : elc q (fun i => t.getD i 0) t.length ++ el7 q y = elc q (fun i => (t ++ [y]).getD i 0) (t ++ [y]).length := by
  rw [show (t ++ [y]).length = t.length + 1 by simp, elc, elc_congrH (f := fun i => (t ++ [y]).getD i 0) (f' := fun i => t.getD i 0) fun i hi => by
    show (t ++ [y]).getD i 0 = t.getD i 0
    rw [getD_app, if_pos hi]]
  congr 2
  show y = (t ++ [y]).getD t.length 0
  rw [getD_app, if_neg (by omega), if_pos rfl]
set_option maxRecDepth 100000 in
set_option maxHeartbeats 8000000 in
/-- impl.field.continued. -/
theorem continuedE (m : Nat) (v : Value) (t : List Int) (w : World) (h : isSz (m : Int) = true) (hv : HE w m v t) (hb : Bgn m t) (hl : t.length < m) :
    Calls Tryz.prog 221 #[fdE (m : Int), v] w fun e w' => ∃ v' X, e = .returned v' ∧ TL w' w.heap.size m v' (nx m t m) X ∧ Below w.heap.size w w' := by
  obtain ⟨e0, he0, ez0, ez1, ez2⟩ := info_parts Tryz.infoE
  obtain ⟨s0, hs0, sz0, sz1, sz2⟩ := info_parts Tryz.infoEs
  have hq := isSz_le (m : Int) h
  have h1 := hb.pos
  have HSE : Hid (∀ w', Below w.heap.size w w' → HE w' m v t) := Lib.hid fun w' hbw => hv.below hbw (Nat.le_refl _)
  have HSU := Lib.hid (fun (y : Nat) (hy : y < m) w' (hbw : Below w.heap.size w w') => suitsE m y v t w' h (HSE.out w' hbw) hb hl hy)
  have HEL := Lib.hid (fun (y : Nat) (hy : y < m) w => elementE (m : Int) (y : Int) w h (by omega) (by omega))
  have HCL : Hid (∀ w', Below w.heap.size w w' → Calls Tryz.prog 188 #[v] w' fun e w'' => ∃ g cap, e = .returned (.slice (some ⟨g, 0, none⟩) t.length cap) ∧ w'.heap.size ≤ g ∧ w''.ownsRow w'.heap.size 70 7 (.slice (some ⟨g, 0, none⟩) t.length cap) t.length (elc (m : Int) (fun i => t.getD i 0) t.length) ∧ Below w'.heap.size w' w'') := Lib.hid fun w' hbw => by
    obtain ⟨g, cap, cur, e, hc, he⟩ := HSE.out w' hbw
    exact cloneO (m : Int) v (fun i => t.getD i 0) t.length w' ⟨g, cap, e, (Array.getElem?_eq_some_iff.1 hc).1, he⟩ (by omega)
  have HY : Hid (∀ y : Nat, fit m t (y : Int) = true → nx m t (y + 1) = nx m t y ++ [t ++ [(y : Int)]]) := Lib.hid fun y hf => nx_succ_yes hf
  have HN : Hid (∀ y : Nat, fit m t (y : Int) = false → nx m t (y + 1) = nx m t y) := Lib.hid fun y hf => nx_succ_no hf
  have HLN : Hid (∀ k, (nx m t k).length ≤ k) := Lib.hid (nx_len m t)
  have HAPP : Hid (∀ y : Int, elc (m : Int) (fun i => t.getD i 0) t.length ++ el7 (m : Int) y = elc (m : Int) (fun i => (t ++ [y]).getD i 0) (t ++ [y]).length) := Lib.hid fun y => elc_snoc (m : Int) t y
  have HLEN : Hid (∀ y : Int, (t ++ [y]).length = t.length + 1) := Lib.hid fun y => by simp
  obtain ⟨a1, c1, rfl⟩ : ∃ a c, v = .slice a t.length c := by obtain ⟨g, cap, cur, e, _⟩ := hv; exact ⟨_, _, e⟩
  have hn : t.length ≤ 16 := by omega
  clear h hv hb hl HSE
  obtain ⟨N, hN⟩ : ∃ N : Nat → List (List Int), N = nx m t := ⟨_, rfl⟩
  rw [← hN] at HY HN HLN ⊢
  have hN0 : N 0 = [] := by rw [hN]; rfl
  have HN0 := Lib.hid hN0
  clear hN hN0
  generalize hf' : (fun i => t.getD i 0) = f at *
  clear hf'
  obtain ⟨n, hnn⟩ : ∃ n, t.length = n := ⟨_, rfl⟩
  rw [hnn] at HCL HAPP HLEN HSU hn h1 ⊢
  clear hnn
  go_enter Tryz.func221, Tryz.ntmps221
  go_wp2_with fail
  have HF : Hid (∀ w', Below (w.heap.size + 1) (w.alloc (ffblk (m : Int))) w' → w'.cell? ⟨w.heap.size, 0, none⟩ = some (.int .i64 m) ∧ w'.cell? ⟨w.heap.size, 1, none⟩ = some (.int .i64 (pr m)) ∧ w'.cell? ⟨w.heap.size, 2, none⟩ = some (.int .i64 (pl m))) := Lib.hid fun w' hb => by
    obtain ⟨x0, x1, x2, _⟩ := cells3' ((hb.block w.heap.size (by omega)).trans (heap_alloc_new w _))
    exact ⟨x0, x1, x2⟩
  go_loopw [5, 10] (fun vo vy wr => ∃ (y : Nat) (X : Nat → Value) (ov : Value), ov = vo ∧ y ≤ m ∧ vy = .int .i64 y ∧ TL wr (w.heap.size + 1) m ov (N y) X ∧ Below (w.heap.size + 1) (w.alloc (ffblk (m : Int))) wr) (fun _ vy _ => m - (intOf vy).toNat)
  case atStart => exact ⟨0, fun _ => .slice none 0 0, _, rfl, Nat.zero_le _, rfl, by rw [HN0.out]; exact TL.nil _ _ _ _, by (repeat' (first | (with_reducible assumption) | (with_reducible exact Below.refl _ _) | (with_reducible refine below_drewN ?_ _) | (with_reducible refine Below.drew ?_) | (with_reducible refine Below.alloc ?_ ?_ _) | (with_reducible refine Below.setCell ?_ ?_ _) | (with_reducible refine Below.trans ?_ (Below.mono (by assumption) ?_)) | (with_reducible exact Nat.le_refl _) | (with_reducible assumption) | omega | (simp; omega) | (simp; done)))⟩
  case round =>
    obtain ⟨y, X, ov, rfl, hy, rfl, hr, hbw⟩ := hrel
    have HR := Lib.hid hr; clear hr
    have HBW := Lib.hid hbw
    obtain ⟨f0, f1, f2⟩ := HF.out _ hbw
    have hzr := hbw.size
    simp at hzr
    have hfl : w.heap.size < wr.heap.size := by omega
    clear hbw
    by_cases hlt : y < m
    · have HELy := Lib.hid (fun w => HEL.out y hlt w)
      have HSUy := Lib.hid (fun w' hb => HSU.out y hlt w' hb)
      have HYy := Lib.hid (HY.out y)
      have HNy := Lib.hid (HN.out y)
      have HLy := HLN.out y
      have HAPy := Lib.hid (HAPP.out (y : Int))
      have HLEy := Lib.hid (HLEN.out (y : Int))
      generalize fit m t (y : Int) = ft at *
      generalize t ++ [(y : Int)] = ty at *
      rw [HLEy.out] at HAPy
      obtain ⟨nl, hnl⟩ : ∃ nl, (N y).length = nl := ⟨_, rfl⟩
      rw [hnl] at HLy
      go_wp2_with fail
      refine (HELy.out _).mono ?_
      rintro e w2 ⟨rfl, hb2⟩
      have hz2 := hb2.size
      have hb2' : Below (w.heap.size + 1) (w.alloc (ffblk (m : Int))) w2 := HBW.out.trans (hb2.mono (by omega))
      have HB2 := Lib.hid hb2'
      have HRB2 : Hid (Below wr.heap.size wr w2) := Lib.hid hb2
      clear hb2 hb2' f0 f1 f2
      have HK2 : Hid (∀ w', Below (w2.heap.size + 1) (w2.alloc (eblk (m : Int) (y : Int))) w' → w'.cell? ⟨w.heap.size, 0, none⟩ = some (.int .i64 m) ∧ w'.cell? ⟨w.heap.size, 1, none⟩ = some (.int .i64 (pr m)) ∧ w'.cell? ⟨w.heap.size, 2, none⟩ = some (.int .i64 (pl m)) ∧ w'.cell? ⟨w2.heap.size, 0, none⟩ = some (.int .i64 m) ∧ w'.cell? ⟨w2.heap.size, 1, none⟩ = some (.int .i64 (pr m)) ∧ w'.cell? ⟨w2.heap.size, 2, none⟩ = some (.int .i64 (pl m)) ∧ w'.cell? ⟨w2.heap.size, 3, none⟩ = some (.int .i64 (dg m (y : Int) 0)) ∧ w'.cell? ⟨w2.heap.size, 4, none⟩ = some (.int .i64 (dg m (y : Int) 1)) ∧ w'.cell? ⟨w2.heap.size, 5, none⟩ = some (.int .i64 (dg m (y : Int) 2)) ∧ w'.cell? ⟨w2.heap.size, 6, none⟩ = some (.int .i64 (dg m (y : Int) 3))) := Lib.hid fun w' hb => by
        obtain ⟨x0, x1, x2⟩ := HF.out w' (HB2.out.trans ((show Below w2.heap.size w2 w' by (repeat' (first | (with_reducible assumption) | (with_reducible exact Below.refl _ _) | (with_reducible refine below_drewN ?_ _) | (with_reducible refine Below.drew ?_) | (with_reducible refine Below.alloc ?_ ?_ _) | (with_reducible refine Below.setCell ?_ ?_ _) | (with_reducible refine Below.trans ?_ (Below.mono (by assumption) ?_)) | (with_reducible exact Nat.le_refl _) | (with_reducible assumption) | omega | (simp; omega) | (simp; done)))).mono (by omega)))
        obtain ⟨y0, y1, y2, y3, y4, y5, y6, _⟩ := seven ((hb.block w2.heap.size (by omega)).trans (heap_alloc_new w2 _))
        exact ⟨x0, x1, x2, y0, y1, y2, y3, y4, y5, y6⟩
      obtain ⟨f0, f1, f2, _⟩ := HK2.out _ (Below.refl _ _)
      go_wp2_with fail
      refine (HSUy.out _ (by have hb2 := HB2.out; (repeat' (first | (with_reducible assumption) | (with_reducible exact Below.refl _ _) | (with_reducible refine below_drewN ?_ _) | (with_reducible refine Below.drew ?_) | (with_reducible refine Below.alloc ?_ ?_ _) | (with_reducible refine Below.setCell ?_ ?_ _) | (with_reducible refine Below.trans ?_ (Below.mono (by assumption) ?_)) | (with_reducible exact Nat.le_refl _) | (with_reducible assumption) | omega | (simp; omega) | (simp; done))))).mono ?_
      rintro e w3 ⟨rfl, hb3⟩
      have hz3 := hb3.size
      simp at hz3
      have hb3v : Below (w2.heap.size + 1) (w2.alloc (eblk (m : Int) (y : Int))) w3 := hb3.mono (by simp)
      have HV3 := Lib.hid hb3v
      have hbx : Below wr.heap.size wr w3 := by have hb2 := HRB2.out; (repeat' (first | (with_reducible assumption) | (with_reducible exact Below.refl _ _) | (with_reducible refine below_drewN ?_ _) | (with_reducible refine Below.drew ?_) | (with_reducible refine Below.alloc ?_ ?_ _) | (with_reducible refine Below.setCell ?_ ?_ _) | (with_reducible refine Below.trans ?_ (Below.mono (by assumption) ?_)) | (with_reducible exact Nat.le_refl _) | (with_reducible assumption) | omega | (simp; omega) | (simp; done)))
      have HB3 : Hid (Below (w.heap.size + 1) (w.alloc (ffblk (m : Int))) w3) := Lib.hid (HBW.out.trans (hbx.mono (by omega)))
      have HR3 := Lib.hid (HR.out.below hbx)
      clear hb3 hb3v hbx f0 f1 f2
      cases ft with
      | false =>
        have HN1 := Lib.hid (HNy.out rfl)
        clear HYy HNy
        go_wp2
        go_roundw
        case rel => exact ⟨y + 1, X, _, rfl, by omega, by go_num, by rw [HN1.out]; exact HR3.out, HB3.out⟩
        case measure => (simp [intOf]; try omega)
      | true =>
        have HY1 := Lib.hid (HYy.out rfl)
        clear HYy HNy
        have HK3 : Hid (∀ w', Below w3.heap.size w3 w' → w'.cell? ⟨w.heap.size, 0, none⟩ = some (.int .i64 m) ∧ w'.cell? ⟨w.heap.size, 1, none⟩ = some (.int .i64 (pr m)) ∧ w'.cell? ⟨w.heap.size, 2, none⟩ = some (.int .i64 (pl m)) ∧ w'.cell? ⟨w2.heap.size, 0, none⟩ = some (.int .i64 m) ∧ w'.cell? ⟨w2.heap.size, 1, none⟩ = some (.int .i64 (pr m)) ∧ w'.cell? ⟨w2.heap.size, 2, none⟩ = some (.int .i64 (pl m)) ∧ w'.cell? ⟨w2.heap.size, 3, none⟩ = some (.int .i64 (dg m (y : Int) 0)) ∧ w'.cell? ⟨w2.heap.size, 4, none⟩ = some (.int .i64 (dg m (y : Int) 1)) ∧ w'.cell? ⟨w2.heap.size, 5, none⟩ = some (.int .i64 (dg m (y : Int) 2)) ∧ w'.cell? ⟨w2.heap.size, 6, none⟩ = some (.int .i64 (dg m (y : Int) 3))) := Lib.hid fun w' hb => HK2.out w' (HV3.out.trans (hb.mono (by omega)))
        have HCL3 := Lib.hid (fun w' (hb : Below w3.heap.size w3 w') => HCL.out w' (by have hb3 := HB3.out; (repeat' (first | (with_reducible assumption) | (with_reducible exact Below.refl _ _) | (with_reducible refine below_drewN ?_ _) | (with_reducible refine Below.drew ?_) | (with_reducible refine Below.alloc ?_ ?_ _) | (with_reducible refine Below.setCell ?_ ?_ _) | (with_reducible refine Below.trans ?_ (Below.mono (by assumption) ?_)) | (with_reducible exact Nat.le_refl _) | (with_reducible assumption) | omega | (simp; omega) | (simp; done)))))
        have HEO : Hid (∀ v' w', World.ownsRow w' w3.heap.size 70 7 v' (n + 1) (elc (m : Int) (fun i => ty.getD i 0) (n + 1)) → HE w' m v' ty) := Lib.hid fun v' w' ho => HE.of_own (by rw [HLEy.out]; exact ho) (by rw [HLEy.out]; omega)
        have hno_n : Hid (∀ w', TL w' (w.heap.size + 1) m ov (N y) X → ∀ o, (w'.alloc o).ownsRow (w.heap.size + 1) 65 1 ov nl (flv X nl)) := Lib.hid fun w' h o => by rw [← hnl]; exact World.ownsRow.alloc h.outer o
        have HAP27 : Hid (∀ w' w'' v' u, TL w' (w.heap.size + 1) m ov (N y) X → HE w' m u ty → (w'.alloc (.cells #[u] 65)).grownBy w'' ov.ownBlock → w''.ownsRow (w.heap.size + 1) 65 1 v' (nl + 1) (flv X nl ++ [u]) → TL w'' (w.heap.size + 1) m v' (N (y + 1)) (appX X nl (fun _ => u))) := Lib.hid fun w' w'' v' u hT hE hg ho => by
          rw [HY1.out, ← hnl]
          refine (hT.below ((Below.refl _ _).alloc (Nat.le_refl _) _)).app (X2 := fun _ => u) hg ?_ fun i hi => ?_
          · rw [hnl]; exact ho
          · obtain rfl : i = 0 := by simp at hi; omega
            exact (hE.below ((Below.refl _ _).alloc (Nat.le_refl _) _) (Nat.le_refl _)).keep fun g hgg => rfl
        have hVB3 : w2.heap.size < w3.heap.size := by omega
        go_wp2_with fail
        obtain ⟨f0, f1, f2, y0, y1, y2, y3, y4, y5, y6⟩ := HK3.out _ (Below.refl _ _)
        go_region_law (first
          | ((refine step_append_ownEH rfl (.tmp 22) (.tmp 24) 65 rfl w3.heap.size 70 e0 (.agg #[.int .i64 0, .int .i64 0, .int .i64 0, .int .i64 0, .int .i64 0, .int .i64 0, .int .i64 0]) 7 56 Tryz.underlying65 he0 (by exact ez0) (by exact ez1) (by exact ez2) (by rfl) (by decide) (.slice (some ⟨g22, 0, none⟩) n c22) n (elc (m : Int) f n) (by simp [Act.eval]; done) (by exact HOW22.out _ (by (repeat' (first | (with_reducible assumption) | (with_reducible exact Below.refl _ _) | (with_reducible refine below_drewN ?_ _) | (with_reducible refine Below.drew ?_) | (with_reducible refine Below.alloc ?_ ?_ _) | (with_reducible refine Below.setCell ?_ ?_ _) | (with_reducible refine Below.trans ?_ (Below.mono (by assumption) ?_)) | (with_reducible exact Nat.le_refl _) | (with_reducible assumption) | omega | (simp; omega) | (simp; done))))) ⟨w22.heap.size, 0, none⟩ 1 1 (el7 (m : Int) (y : Int)) (by simp [Act.eval]; done) rfl (by exact blk_newsH (by exact heap_alloc_new _ _)) (el7_oneH _ _) (by unfold maxLen; omega) (by omega) (by first | omega | (simp; done) | (simp; omega)) ?_; intro v25 w25 hown25 hgrow25; rw [HAPy.out] at hown25; obtain ⟨g25, c25, rfl⟩ := own_formE hown25 (by omega); have HHE25 := Lib.hid (HEO.out _ _ hown25); have hb25 : Below w3.heap.size w3 w25 := Below.grown (by (try have hb22 := HB22.out); (repeat' (first | (with_reducible assumption) | (with_reducible exact Below.refl _ _) | (with_reducible refine below_drewN ?_ _) | (with_reducible refine Below.drew ?_) | (with_reducible refine Below.alloc ?_ ?_ _) | (with_reducible refine Below.setCell ?_ ?_ _) | (with_reducible refine Below.trans ?_ (Below.mono (by assumption) ?_)) | (with_reducible exact Nat.le_refl _) | (with_reducible assumption) | omega | (simp; omega) | (simp; done)))) hgrow25 (by first | omega | (simp; omega)) (fun g hg => by cases hg; exact hg22'); have hz25 := hb25.size; have HR25 := Lib.hid (HR3.out.below hb25); clear hown25 hgrow25; obtain ⟨hc25, hf25⟩ := bcell hb25; (try simp only [World.size_drew] at hc25 hf25); have hz25 := hb25.size; (try simp at hz25); have HB25 := Lib.hid hb25; clear hb25))
          | ((refine step_append_ownEH rfl (.tmp 22) (.tmp 24) 65 rfl w3.heap.size 70 e0 (.agg #[.int .i64 0, .int .i64 0, .int .i64 0, .int .i64 0, .int .i64 0, .int .i64 0, .int .i64 0]) 7 56 Tryz.underlying65 he0 (by exact ez0) (by exact ez1) (by exact ez2) (by rfl) (by decide) (.slice (some ⟨g22, 0, none⟩) n c22) n (elc (m : Int) f n) (by simp [Act.eval]; done) (by exact HOW22.out _ (by (repeat' (first | (with_reducible assumption) | (with_reducible exact Below.refl _ _) | (with_reducible refine below_drewN ?_ _) | (with_reducible refine Below.drew ?_) | (with_reducible refine Below.alloc ?_ ?_ _) | (with_reducible refine Below.setCell ?_ ?_ _) | (with_reducible refine Below.trans ?_ (Below.mono (by assumption) ?_)) | (with_reducible exact Nat.le_refl _) | (with_reducible assumption) | omega | (simp; omega) | (simp; done))))) ⟨w3.heap.size, 0, none⟩ 1 1 (el7 (m : Int) (y : Int)) (by simp [Act.eval]; done) rfl (by exact blk_newsH (by exact (HB22.out.block _ (by simp)).trans (heap_alloc_new _ _))) (el7_oneH _ _) (by unfold maxLen; omega) (by omega) (by first | omega | (simp; done) | (simp; omega)) ?_; intro v25 w25 hown25 hgrow25; rw [HAPy.out] at hown25; obtain ⟨g25, c25, rfl⟩ := own_formE hown25 (by omega); have HHE25 := Lib.hid (HEO.out _ _ hown25); have hb25 : Below w3.heap.size w3 w25 := Below.grown (by (try have hb22 := HB22.out); (repeat' (first | (with_reducible assumption) | (with_reducible exact Below.refl _ _) | (with_reducible refine below_drewN ?_ _) | (with_reducible refine Below.drew ?_) | (with_reducible refine Below.alloc ?_ ?_ _) | (with_reducible refine Below.setCell ?_ ?_ _) | (with_reducible refine Below.trans ?_ (Below.mono (by assumption) ?_)) | (with_reducible exact Nat.le_refl _) | (with_reducible assumption) | omega | (simp; omega) | (simp; done)))) hgrow25 (by first | omega | (simp; omega)) (fun g hg => by cases hg; exact hg22'); have hz25 := hb25.size; have HR25 := Lib.hid (HR3.out.below hb25); clear hown25 hgrow25; obtain ⟨hc25, hf25⟩ := bcell hb25; (try simp only [World.size_drew] at hc25 hf25); have hz25 := hb25.size; (try simp at hz25); have HB25 := Lib.hid hb25; clear hb25))
          | ((refine step_append_ownEH rfl (.tmp 20) (.tmp 26) 113 rfl (w.heap.size + 1) 65 s0 (.slice none 0 0) 1 24 Tryz.underlying113 hs0 sz0 sz1 sz2 rfl (by decide) ov nl (flv X nl) (by simp [Act.eval]; done) (by exact hno_n.out _ HR25.out _) ⟨w25.heap.size, 0, none⟩ 1 1 [.slice (some ⟨g25, 0, none⟩) (n + 1) c25] (by simp [Act.eval]; done) rfl (by exact cell_one_new _ _ _) (by intro u hu; simp at hu; subst hu; rfl) (by unfold maxLen; omega) (by omega) (by first | omega | (simp; omega)) ?_; intro v27 w27 hown27 hgrow27; have HT27 := Lib.hid (HAP27.out _ _ _ _ HR25.out HHE25.out hgrow27 hown27); have hb27 : Below (w.heap.size + 1) (w.alloc (ffblk (m : Int))) w27 := Below.grown (by have hb25 := HB25.out; have hb3 := HB3.out; (repeat' (first | (with_reducible assumption) | (with_reducible exact Below.refl _ _) | (with_reducible refine below_drewN ?_ _) | (with_reducible refine Below.drew ?_) | (with_reducible refine Below.alloc ?_ ?_ _) | (with_reducible refine Below.setCell ?_ ?_ _) | (with_reducible refine Below.trans ?_ (Below.mono (by assumption) ?_)) | (with_reducible exact Nat.le_refl _) | (with_reducible assumption) | omega | (simp; omega) | (simp; done)))) hgrow27 (by first | omega | (simp; omega)) (fun g hg => (HR25.out.lt g hg).1); have HB27 := Lib.hid hb27; clear hown27 hgrow27 hb27))
          | (go_simp; go_wp2_with (go_at_call 188; refine (HCL3.out _ (by (repeat' (first | (with_reducible assumption) | (with_reducible exact Below.refl _ _) | (with_reducible refine below_drewN ?_ _) | (with_reducible refine Below.drew ?_) | (with_reducible refine Below.alloc ?_ ?_ _) | (with_reducible refine Below.setCell ?_ ?_ _) | (with_reducible refine Below.trans ?_ (Below.mono (by assumption) ?_)) | (with_reducible exact Nat.le_refl _) | (with_reducible assumption) | omega | (simp; omega) | (simp; done))))).mono ?_; rintro e w22 ⟨g22, c22, rfl, hg22, ho22, hb22⟩; have hg22' : w3.heap.size ≤ g22 := (by first | omega | (simp at hg22; omega)); have hgl22 := (World.ownsRow.lt ho22 g22 rfl).2; have HOW22 : Hid (∀ W, Below w22.heap.size w22 W → W.ownsRow w3.heap.size 70 7 (.slice (some ⟨g22, 0, none⟩) n c22) n (elc (m : Int) f n)) := Lib.hid (fun W hb => owns_keptS ho22 (by first | (simp; done) | (simp; omega)) (fun g hg => by cases hg; exact hb.block _ hgl22)); clear ho22; have hbw22 : Below w3.heap.size w3 w22 := (by (repeat' (first | (with_reducible assumption) | (with_reducible exact Below.refl _ _) | (with_reducible refine below_drewN ?_ _) | (with_reducible refine Below.drew ?_) | (with_reducible refine Below.alloc ?_ ?_ _) | (with_reducible refine Below.setCell ?_ ?_ _) | (with_reducible refine Below.trans ?_ (Below.mono (by assumption) ?_)) | (with_reducible exact Nat.le_refl _) | (with_reducible assumption) | omega | (simp; omega) | (simp; done)))); obtain ⟨v0, v1, v2, z0, z1, z2, z3, z4, z5, z6⟩ := HK3.out w22 hbw22; have HBW22 := Lib.hid hbw22; clear hbw22; obtain ⟨hc22, hf22⟩ := bcell hb22; (try simp only [World.size_drew] at hc22 hf22); have hz22 := hb22.size; (try simp at hz22); have HB22 := Lib.hid hb22; clear hb22; have l22 : w3.heap.size < w22.heap.size := (by omega))))
        all_goals
          go_wp2
          go_roundw
          case rel => exact ⟨y + 1, _, _, rfl, by omega, by go_num, HT27.out, HB27.out⟩
          case measure => (simp [intOf]; try omega)
    · obtain rfl : y = m := by omega
      go_wp2
      go_ret
      exact ⟨_, X, rfl, HR.out.mono (by omega), by have hb := HBW.out; (repeat' (first | (with_reducible assumption) | (with_reducible exact Below.refl _ _) | (with_reducible refine below_drewN ?_ _) | (with_reducible refine Below.drew ?_) | (with_reducible refine Below.alloc ?_ ?_ _) | (with_reducible refine Below.setCell ?_ ?_ _) | (with_reducible refine Below.trans ?_ (Below.mono (by assumption) ?_)) | (with_reducible exact Nat.le_refl _) | (with_reducible assumption) | omega | (simp; omega) | (simp; done)))⟩
end Go.Proofs.YtapglncgicfjnabGreat
