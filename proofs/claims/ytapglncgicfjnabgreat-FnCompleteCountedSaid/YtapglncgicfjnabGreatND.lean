/- Polynomials in memory, told by their tables; powers of x, the product with x: impl.field.powerOfX, impl.poly.timesX by contracts. -/
import Derived.Test.YtapglncgicfjnabGreatNB
import Derived.Test.YtapglncgicfjnabGreatKQ
import Derived.Test.YtapglncgicfjnabGreatKP
import Derived.Deep.RegionLaw
import Derived.Deep.RegionHeld3
namespace Go.Proofs.YtapglncgicfjnabGreat
open Go.RowKit
/-- v holds the coefficients of the reduced polynomial with the table t. -/
def IsP (w : World) (v : Value) (m : Nat) (t : Nat → Int) : Prop := ∃ g k cap f, v = .slice (some ⟨g, 0, none⟩) k cap ∧ g < w.heap.size ∧ Els w g (m : Int) f k ∧ Tb m f k t
theorem IsP.below {w w' : World} {v : Value} {m B : Nat} {t : Nat → Int} (h : IsP w v m t) (hb : Below B w w') (hB : w.heap.size ≤ B) : IsP w' v m t := by
  obtain ⟨g, k, cap, f, rfl, hg, he, ht⟩ := h
  exact ⟨g, k, cap, f, rfl, by have := hb.size; omega, he.below hb (by omega), ht⟩
theorem IsP.like {w : World} {v : Value} {m : Nat} {t u : Nat → Int} (h : IsP w v m t) (e : ∀ a, a < m → t a = u a) : IsP w v m u := by
  obtain ⟨g, k, cap, f, hv, hg, he, ht⟩ := h
  exact ⟨g, k, cap, f, hv, hg, he, ht.like e⟩
theorem IsP.slice {w : World} {v : Value} {m : Nat} {t : Nat → Int} (h : IsP w v m t) : ∃ a k cap, v = .slice a k cap := by
  obtain ⟨g, k, cap, f, rfl, _⟩ := h
  exact ⟨_, _, _, rfl⟩
/-- append to a slice of the call's own, as a step of a region that draws. -/
theorem step_append_ownE {P : Program} {ops : Array Oper} {o : Oper} {a : Act} {w : World} {K : Act → World → Prop} {Q : Exit → Act → World → Prop} {E : Prop}
    (hg : o.guard = none) (s x : Operand) (t : TypeId) (hop : o.op = Op.call { callee := Callee.builtin Builtin.append, args := #[s, x], argTypes := #[t, t] })
    (base : Nat) (e : TypeId) (i : TypeInfo) (z : Value) (size bytes : Nat) (h1 : P.underlying t = some (.slice e)) (h2 : P.info? e = some i) (h3 : i.zero = some z) (h4 : i.size = size) (h5 : i.bytes = bytes) (h6 : z.cells.size = size) (h7 : 0 < size)
    (v : Value) (n : Nat) (xs : List Value) (hs : a.eval s = v) (hown : w.ownsRow base e size v n xs)
    (ad : Addr) (m c : Nat) (news : List Value) (hx : a.eval x = .slice (some ad) m c) (hn : news.length = m * size) (hc : ∀ j u, news[j]? = some u → w.cell? (ad.add j) = some u) (h1c : ∀ u ∈ news, u.oneCell' = true)
    (b1 : n + m ≤ maxLen) (b2 : (n + m) * bytes ≤ 140737488355328) (hbase : base ≤ w.heap.size)
    (hK : ∀ v' w', w'.ownsRow base e size v' (n + m) (xs ++ news) → w.grownBy w' v.ownBlock → K (a.put o.dst v') w') :
    if Region.wanted o (yielded ops a.tmps) = true then Oper.wp P o a w K Q else E := by
  have hw : Region.wanted o (yielded ops a.tmps) = true := by simp [Region.wanted, hg]
  rw [if_pos hw]
  obtain ⟨v', w', hrun, r1, r2, _⟩ := run_append_own (P := P) w base t o.type e i z size bytes h1 h2 h3 h4 h5 h6 h7 v n xs hown ad m c news hn hc h1c b1 b2 hbase
  unfold Oper.wp
  simp [execOp, hop, resolve, invoke, builtin, hs, hx, hrun, Result.andThen]
  exact hK v' w' r1 r2
/-- Elements in a block of their own, as a row of the call's. -/
theorem els_owns {w : World} {B g n : Nat} {q : Int} {f : Nat → Int} (hk : Blk w g n) (he : Els w g q f n) (hB : B ≤ g) (hn : n ≤ 1000) : w.ownsRow B 70 7 (.slice (some ⟨g, 0, none⟩) n n) n (elc q f n) := by
  obtain ⟨cur, hh, hsz⟩ := hk
  refine ⟨elc_len q f n, .inr ⟨g, n, cur, rfl, hB, hh, Nat.le_refl _, by unfold maxLen; omega, hsz, ?_⟩⟩
  have hl := elc_len q f n
  rw [List.take_of_length_le (by simp; omega)]
  refine List.ext_getElem? fun j => ?_
  by_cases hj : j < n * 7
  · have hc := elc_cells he j (elc q f n)[j] (List.getElem?_eq_getElem (by omega))
    rw [add_off, Nat.zero_add, cell_of_row w g j cur _ _ hh] at hc
    rw [Array.getElem?_toList, hc, List.getElem?_eq_getElem (by omega)]
  · rw [List.getElem?_eq_none (by simp; omega), List.getElem?_eq_none (by omega)]
theorem elc_congr {q : Int} {f f' : Nat → Int} {n : Nat} (h : ∀ i, i < n → f i = f' i) : elc q f n = elc q f' n := by
  induction n with
  | zero => rfl
  | succ n ih => rw [elc, elc, ih fun i hi => h i (by omega), h n (by omega)]
theorem elc_app (q : Int) (f : Nat → Int) (n k : Nat) : elc q f (n + k) = elc q f n ++ elc q (fun i => f (n + i)) k := by
  induction k with
  | zero => simp [elc]
  | succ k ih => rw [show n + (k + 1) = n + k + 1 by omega, elc, elc, ih, List.append_assoc]
theorem blk_news {w : World} {b : Nat} {q a : Int} (h : w.heap[b]? = some (eblk q a)) : ∀ j u, (el7 q a)[j]? = some u → w.cell? ((⟨b, 0, none⟩ : Addr).add j) = some u := by
  intro j u hj
  rw [add_off, Nat.zero_add, cell_of_row w b j _ _ _ h, ← hj]
  simp [el7]
theorem el7_one (q a : Int) : ∀ u ∈ el7 q a, u.oneCell' = true := by
  intro u hu
  simp only [el7, List.mem_cons, List.not_mem_nil, or_false] at hu
  rcases hu with rfl | rfl | rfl | rfl | rfl | rfl | rfl <;> rfl
theorem owns_se {w : World} {B n : Nat} {v : Value} {q : Int} {f : Nat → Int} (h : w.ownsRow B 70 7 v n (elc q f n)) (hn : 0 < n) : Se w v q f n := by
  rcases h.2 with ⟨_, hx⟩ | ⟨g1, cap1, cur, hx, hB, hh, hc, _, hsz, _⟩
  · omega
  · subst hx
    exact ⟨g1, cap1, rfl, (Array.getElem?_eq_some_iff.1 hh).1, els_of_owns h⟩
set_option maxRecDepth 100000 in
set_option maxHeartbeats 8000000 in
/-- impl.field.powerOfX. -/
theorem powerOfXE (m n : Nat) (w : World) (h : isSz (m : Int) = true) (hn : n ≤ 900) :
    Calls Tryz.prog 97 #[fdE (m : Int), .int .i64 n] w fun e w' => ∃ v, e = .returned (polyE (m : Int) v) ∧ IsP w' v m (fun a => pw m (a : Int) n) ∧ Below w.heap.size w w' := by
  have hq := isSz_le (m : Int) h
  obtain ⟨i0, hi, iz0, iz1, iz2⟩ := info_parts Tryz.infoE
  have HZ := Lib.hid (fun w => zerosE (m : Int) n w h (by omega))
  have HO := Lib.hid (fun w => oneE (m : Int) w h)
  have HRD := Lib.hid (fun v' w' (hs : Se w' v' (m : Int) (unt n) (n + 1)) => reducedE m v' (unt n) (n + 1) w' h hs (unt_el h n) (by omega))
  have HTB := Lib.hid (tb_untR h n)
  have HAP : Hid (elc (m : Int) (fun _ => 0) n ++ el7 (m : Int) 1 = elc (m : Int) (unt n) (n + 1)) := Lib.hid (by
    rw [elc, elc_congr (f := fun _ => 0) (f' := unt n) fun i hi => (if_neg (by omega)).symm, show unt n n = 1 from if_pos rfl])
  clear h
  generalize redn m (unt n) (n + 1) = k at *
  generalize redR m (unt n) (n + 1) = f at *
  go_enter Tryz.func97, Tryz.ntmps97
  go_wp2_with fail
  have HT := Lib.hid (two w (ffblk (m : Int)) pzblk)
  have HKEEP : Hid (∀ w', Below (w.heap.size + 1) (w.alloc (ffblk (m : Int))) w' → w'.cell? ⟨w.heap.size, 0, none⟩ = some (.int .i64 m) ∧ w'.cell? ⟨w.heap.size, 1, none⟩ = some (.int .i64 (pr m)) ∧ w'.cell? ⟨w.heap.size, 2, none⟩ = some (.int .i64 (pl m))) := Lib.hid fun w' hb => by
    obtain ⟨x0, x1, x2, _⟩ := cells3' ((hb.block _ (by omega)).trans (heap_alloc_new w _))
    exact ⟨x0, x1, x2⟩
  go_region_held3 (fun w' => w'.cell? ⟨w.heap.size, 0, none⟩ = some (.int .i64 m) ∧ w'.cell? ⟨w.heap.size, 1, none⟩ = some (.int .i64 (pr m)) ∧ w'.cell? ⟨w.heap.size, 2, none⟩ = some (.int .i64 (pl m)))
    (exact HKEEP.out _ (by (try have hb3 := HB3.out); (try have hb4 := HB4.out); (try have hb7 := HB7.out); (try have hb8 := HB8.out); (repeat' (first | (with_reducible assumption) | (with_reducible exact Below.refl _ _) | (with_reducible refine below_drewN ?_ _) | (with_reducible refine Below.drew ?_) | (with_reducible refine Below.alloc ?_ ?_ _) | (with_reducible refine Below.setCell ?_ ?_ _) | (with_reducible refine Below.trans ?_ (Below.mono (by assumption) ?_)) | (with_reducible exact Nat.le_refl _) | (with_reducible assumption) | omega | (simp; omega) | (simp; done)))))
    (first
    | ((refine step_append_ownE rfl (.tmp 8) (.tmp 11) 65 rfl (w.heap.size + 2) 70 i0 (.agg #[.int .i64 0, .int .i64 0, .int .i64 0, .int .i64 0, .int .i64 0, .int .i64 0, .int .i64 0]) 7 56 Tryz.underlying65 hi iz0 iz1 iz2 rfl (by decide) (.slice (some ⟨g3, 0, none⟩) n n) n (elc (m : Int) (fun _ => 0) n) (by simp [Act.eval]) (HOW3.out _ (by (try have hb4 := HB4.out); (repeat' (first | (with_reducible assumption) | (with_reducible exact Below.refl _ _) | (with_reducible refine below_drewN ?_ _) | (with_reducible refine Below.drew ?_) | (with_reducible refine Below.alloc ?_ ?_ _) | (with_reducible refine Below.setCell ?_ ?_ _) | (with_reducible refine Below.trans ?_ (Below.mono (by assumption) ?_)) | (with_reducible exact Nat.le_refl _) | (with_reducible assumption) | omega | (simp; omega) | (simp; done))))) ⟨w3.heap.size, 0, none⟩ 1 1 (el7 (m : Int) 1) (by simp [Act.eval]) rfl (blk_news (heap_alloc_new _ _)) (el7_one _ _) (by unfold maxLen; omega) (by omega) (by simp; omega) ?_; intro v7 w7 hown hgrow; rw [HAP.out] at hown; have HSE7 := Lib.hid (owns_se hown (by omega)); have hb7 : Below (w.heap.size + 2) ((w.alloc (ffblk (m : Int))).alloc pzblk) w7 := Below.grown (by (try have hb3 := HB3.out); (try have hb4 := HB4.out); (repeat' (first | (with_reducible assumption) | (with_reducible exact Below.refl _ _) | (with_reducible refine below_drewN ?_ _) | (with_reducible refine Below.drew ?_) | (with_reducible refine Below.alloc ?_ ?_ _) | (with_reducible refine Below.setCell ?_ ?_ _) | (with_reducible refine Below.trans ?_ (Below.mono (by assumption) ?_)) | (with_reducible exact Nat.le_refl _) | (with_reducible assumption) | omega | (simp; omega) | (simp; done)))) hgrow (by simp; omega) (fun g hg => by cases hg; exact hg3'); clear hown hgrow; obtain ⟨hc7, hf7⟩ := bcell hb7; (try simp only [World.size_drew] at hc7 hf7); have hz7 := hb7.size; (try simp at hz7); have HB7 := Lib.hid hb7; clear hb7))
    | (go_at_call 154; refine (HZ.out _).mono ?_; rintro e w3 ⟨g3, rfl, hg3, hk3, he3, hb3⟩; have hg3' : w.heap.size + 2 ≤ g3 := (by simp at hg3; omega); have hgl3 := hk3.lt; have HOW3 : Hid (∀ W, Below w3.heap.size w3 W → W.ownsRow (w.heap.size + 2) 70 7 (.slice (some ⟨g3, 0, none⟩) n n) n (elc (m : Int) (fun _ => 0) n)) := Lib.hid (fun W hb => els_owns (hk3.below hb hgl3) (he3.below hb hgl3) (by simp at hg3; omega) (by omega)); clear hk3 he3; obtain ⟨hc3, hf3⟩ := bcell hb3; (try simp only [World.size_drew] at hc3 hf3); have hz3 := hb3.size; (try simp at hz3); have HB3 := Lib.hid hb3; clear hb3; have l3 : w.heap.size + 2 < w3.heap.size := (by simp at hg3; omega))
    | (go_at_call 148; refine (HO.out _).mono ?_; rintro e w4 ⟨rfl, hb4⟩; obtain ⟨hc4, hf4⟩ := bcell hb4; (try simp only [World.size_drew] at hc4 hf4); have hz4 := hb4.size; (try simp at hz4); have HB4 := Lib.hid hb4; clear hb4; have l4 : w.heap.size + 2 ≤ w4.heap.size := (by omega))
    | ((refine step_append_ownE rfl (.tmp 8) (.tmp 11) 65 rfl (w.heap.size + 2) 70 i0 (.agg #[.int .i64 0, .int .i64 0, .int .i64 0, .int .i64 0, .int .i64 0, .int .i64 0, .int .i64 0]) 7 56 Tryz.underlying65 hi iz0 iz1 iz2 rfl (by decide) (.slice (some ⟨g3, 0, none⟩) n n) n (elc (m : Int) (fun _ => 0) n) (by simp [Act.eval]) (HOW3.out _ (by (try have hb4 := HB4.out); (repeat' (first | (with_reducible assumption) | (with_reducible exact Below.refl _ _) | (with_reducible refine below_drewN ?_ _) | (with_reducible refine Below.drew ?_) | (with_reducible refine Below.alloc ?_ ?_ _) | (with_reducible refine Below.setCell ?_ ?_ _) | (with_reducible refine Below.trans ?_ (Below.mono (by assumption) ?_)) | (with_reducible exact Nat.le_refl _) | (with_reducible assumption) | omega | (simp; omega) | (simp; done))))) ⟨w4.heap.size, 0, none⟩ 1 1 (el7 (m : Int) 1) (by simp [Act.eval]) rfl (blk_news (by first | exact heap_alloc_new _ _ | exact (HB3.out.block _ (by simp)).trans (heap_alloc_new _ _))) (el7_one _ _) (by unfold maxLen; omega) (by omega) (by simp; omega) ?_; intro v7 w7 hown hgrow; rw [HAP.out] at hown; have HSE7 := Lib.hid (owns_se hown (by omega)); have hb7 : Below (w.heap.size + 2) ((w.alloc (ffblk (m : Int))).alloc pzblk) w7 := Below.grown (by (try have hb3 := HB3.out); (try have hb4 := HB4.out); (repeat' (first | (with_reducible assumption) | (with_reducible exact Below.refl _ _) | (with_reducible refine below_drewN ?_ _) | (with_reducible refine Below.drew ?_) | (with_reducible refine Below.alloc ?_ ?_ _) | (with_reducible refine Below.setCell ?_ ?_ _) | (with_reducible refine Below.trans ?_ (Below.mono (by assumption) ?_)) | (with_reducible exact Nat.le_refl _) | (with_reducible assumption) | omega | (simp; omega) | (simp; done)))) hgrow (by simp; omega) (fun g hg => by cases hg; exact hg3'); clear hown hgrow; obtain ⟨hc7, hf7⟩ := bcell hb7; (try simp only [World.size_drew] at hc7 hf7); have hz7 := hb7.size; (try simp at hz7); have HB7 := Lib.hid hb7; clear hb7))
    | (go_at_call 151; refine (HRD.out _ _ HSE7.out).mono ?_; rintro e w8 ⟨g8, cp8, rfl, hg8, he8, hb8⟩; have HE8 := Lib.hid he8; clear he8; obtain ⟨hc8, hf8⟩ := bcell hb8; (try simp only [World.size_drew] at hc8 hf8); have hz8 := hb8.size; (try simp at hz8); have HB8 := Lib.hid hb8; clear hb8; have l8 : w.heap.size + 2 ≤ w8.heap.size := (by omega); have hr8 : w8.heap[w.heap.size + 1]? = some pzblk := (Below.block (B := w.heap.size + 2) (w := (w.alloc (ffblk (m : Int))).alloc pzblk) (by have hb7 := HB7.out; have hb8 := HB8.out; (repeat' (first | (with_reducible assumption) | (with_reducible exact Below.refl _ _) | (with_reducible refine below_drewN ?_ _) | (with_reducible refine Below.drew ?_) | (with_reducible refine Below.alloc ?_ ?_ _) | (with_reducible refine Below.setCell ?_ ?_ _) | (with_reducible refine Below.trans ?_ (Below.mono (by assumption) ?_)) | (with_reducible exact Nat.le_refl _) | (with_reducible assumption) | omega | (simp; omega) | (simp; done)))) _ (by omega)).trans HT.out.2; obtain ⟨q0, q1, q2, q3, qf, ql⟩ := cells4 hr8))
  all_goals
    go_wp2_with fail
    have hb7 := HB7.out
    have hb8 := HB8.out
    have hbr : Below (w.heap.size + 2) ((w.alloc (ffblk (m : Int))).alloc pzblk) w8 := by (repeat' (first | (with_reducible assumption) | (with_reducible exact Below.refl _ _) | (with_reducible refine below_drewN ?_ _) | (with_reducible refine Below.drew ?_) | (with_reducible refine Below.alloc ?_ ?_ _) | (with_reducible refine Below.setCell ?_ ?_ _) | (with_reducible refine Below.trans ?_ (Below.mono (by assumption) ?_)) | (with_reducible exact Nat.le_refl _) | (with_reducible assumption) | omega | (simp; omega) | (simp; done)))
    have hr : w8.heap[w.heap.size + 1]? = some pzblk := (hbr.block _ (by omega)).trans HT.out.2
    obtain ⟨r0, r1, r2, r3, rf, rl0⟩ := cells4 hr
    refine bodyPost_ret (v := polyE (m : Int) (.slice (some ⟨g8, 0, none⟩) k cp8)) (by simp [results, Tryz.results97, go_sem, r0, r1, r2, r3]) rfl ⟨_, rfl, ⟨g8, k, cp8, f, rfl, by simp; omega, ?_, HTB.out⟩, ?_⟩
    · exact HE8.out.over hr (by omega) (fun k hk => by (repeat' (first | (with_reducible rfl) | (with_reducible refine (heap_setCell_other _ _ _ _ ?_).trans ?_) | (with_reducible refine (drew_heap' _ _).trans ?_) | exact hk)))
    · (repeat' (first | (with_reducible assumption) | (with_reducible exact Below.refl _ _) | (with_reducible refine below_drewN ?_ _) | (with_reducible refine Below.drew ?_) | (with_reducible refine Below.alloc ?_ ?_ _) | (with_reducible refine Below.setCell ?_ ?_ _) | (with_reducible refine Below.trans ?_ (Below.mono (by assumption) ?_)) | (with_reducible exact Nat.le_refl _) | (with_reducible assumption) | omega | (simp; omega) | (simp; done)))
end Go.Proofs.YtapglncgicfjnabGreat
