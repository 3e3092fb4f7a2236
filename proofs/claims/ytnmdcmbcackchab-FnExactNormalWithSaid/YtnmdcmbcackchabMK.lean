/- impl.field.normalPermuting, by a contract. -/
import Derived.Test.YtnmdcmbcackchabMI
import Derived.Test.YtnmdcmbcackchabQA
import Derived.Test.YtnmdcmbcackchabLR
import Derived.Test.YtnmdcmbcackchabLO
import Derived.Test.YtnmdcmbcackchabLC
namespace Go.Proofs.Ytnmdcmbcackchab
open Go.RowKit
theorem PS.mono {w : World} {B B' m d : Nat} {v : Value} {L : List Nat} {Y : Nat → Nat × Nat} (h : PS w B v m d L Y) (hB : B' ≤ B) : PS w B' v m d L Y := by
  refine ⟨⟨h.outer.1, ?_⟩, h.inner⟩
  rcases h.outer.2 with hn | ⟨g, cap, cur, rfl, hb, rest⟩
  · exact .inl hn
  · exact .inr ⟨g, cap, cur, rfl, by omega, rest⟩
theorem put4_heapP {w : World} {b : Nat} {x0 x1 x2 x3 : Value} (q : Int) (v : Value) (h : w.heap[b]? = some (.cells #[x0, x1, x2, x3] 46 (0, 0))) : (put4 w b q v).heap[b]? = some (pblk q v) := by
  unfold put4
  have e0 := heap_setCell_same w b 0 _ _ (.int .i64 q) h
  have e1 := heap_setCell_same _ b 1 _ _ (.int .i64 (pr q)) e0
  have e2 := heap_setCell_same _ b 2 _ _ (.int .i64 (pl q)) e1
  have e3 := heap_setCell_same _ b 3 _ _ v e2
  exact e3
theorem cells_new (w : World) (cs : Array Value) (e : TypeId) : ∀ j u, cs.toList[j]? = some u → (w.alloc (.cells cs e)).cell? ((⟨w.heap.size, 0, none⟩ : Addr).add j) = some u := by
  intro j u h
  have hadd : (⟨w.heap.size, 0, none⟩ : Addr).add j = ⟨w.heap.size, j, none⟩ := by unfold Addr.add; split <;> simp_all
  rw [hadd, cell_of_row _ _ _ _ _ (0, 0) (heap_alloc_new w _)]
  simpa using h
theorem pow_few' {m d : Nat} (h7 : m ≤ 7) (hdm : d < m) : m ^ d ≤ 117649 := by
  have h1 : m ^ d ≤ 7 ^ d := Nat.pow_le_pow_left h7 d
  have h2 : 7 ^ d ≤ 7 ^ 6 := Nat.pow_le_pow_right (by omega) (by omega)
  exact Nat.le_trans h1 h2
/-- A variable's block is none of elements. -/
theorem var_not_el {w : World} {b k : Nat} {x : Value} {T : TypeId} {q : Int} {f : Nat → Int} (h : w.heap[b]? = some (.cells #[x] T (0, 0))) (he : Els w b q f (k + 1)) : False := by
  have h1 := (he 0 (by omega)).2.1
  rw [cell_of_row w b _ _ _ (0, 0) h] at h1
  simp at h1
/-- The memory while polynomials are looked at. -/
structure NQ (w0 wr : World) (m d k : Nat) (v : Value) (Y : Nat → Nat × Nat) : Prop where
  hf : wr.heap[w0.heap.size + 2]? = some (ffblk m)
  hv : wr.heap[w0.heap.size + 1]? = some (.cells #[v] 66 (0, 0))
  ps : PS wr (w0.heap.size + 3) v m d (nl m d k) Y
  bel : Below w0.heap.size w0 wr
theorem NQ.below {w0 wr w' : World} {m d k : Nat} {v : Value} {Y : Nat → Nat × Nat} (h : NQ w0 wr m d k v Y) (hb : Below wr.heap.size wr w') : NQ w0 w' m d k v Y := by
  have hl := (cells3' h.hf).2.2.2.2
  have hz := h.bel.size
  exact ⟨(hb.block _ hl).trans h.hf, (hb.block _ (by omega)).trans h.hv, h.ps.below hb (Nat.le_refl _), h.bel.trans (hb.mono hz)⟩
theorem NQ.skip {w0 wr : World} {m d k : Nat} {v : Value} {Y : Nat → Nat × Nat} (h : NQ w0 wr m d k v Y) (hk : kp m d (m * k) = false) : NQ w0 wr m d (k + 1) v Y := by
  have e : nl m d (k + 1) = nl m d k := by rw [nl_succ, hk]; simp
  exact ⟨h.hf, h.hv, by rw [e]; exact h.ps, h.bel⟩
theorem NQ.take {w0 wr w' : World} {m d k gp cp : Nat} {v v' : Value} {Y : Nat → Nat × Nat} (h : NQ w0 wr m d k v Y) (hk : kp m d (m * k) = true) (hg : wr.grownBy w' v.ownBlock)
    (hown : w'.ownsRow (w0.heap.size + 3) 46 4 v' ((nl m d k).length + 1) (plc m d Y (nl m d k).length ++ pcell m d (gp, cp)))
    (hl : gp < wr.heap.size) (he : Els wr gp (m : Int) (pf m d (m * k)) (d + 1)) (hne : v.ownBlock ≠ some gp) :
    w'.heap[w0.heap.size + 1]? = some (.cells #[v] 66 (0, 0)) ∧ NQ w0 (w'.setCell ⟨w0.heap.size + 1, 0, none⟩ v') m d (k + 1) v' (set1 Y (nl m d k).length (gp, cp)) := by
  have e : nl m d (k + 1) = nl m d k ++ [m * k] := by rw [nl_succ, hk]; simp
  have hlt := (cells3' h.hf).2.2.2.2
  have hno : ∀ b, b < w0.heap.size + 3 → ¬ v.ownBlock = some b := fun b hb e => by
    have := (h.ps.lt b e).1
    omega
  have hv' : w'.heap[w0.heap.size + 1]? = some (.cells #[v] 66 (0, 0)) := (hg.block _ (by omega) fun e => hno _ (by omega) e.symm).trans h.hv
  have hf' : w'.heap[w0.heap.size + 2]? = some (ffblk m) := (hg.block _ (by omega) fun e => hno _ (by omega) e.symm).trans h.hf
  have hps := h.ps.appended hg hown hl he hne
  refine ⟨hv', (heap_setCell_other _ _ _ _ (by simp)).trans hf', ?_, ?_, ?_⟩
  · exact heap_setCell_same w' (w0.heap.size + 1) 0 _ _ v' hv'
  · rw [e]
    refine ⟨owns_kept hps.outer fun g hg' => heap_setCell_other _ _ _ _ ?_, fun i hi => ?_⟩
    · have := (hps.lt g hg').1
      show ¬ g = w0.heap.size + 1
      omega
    · have hin := hps.inner i hi
      refine ⟨by simpa using hin.1, hin.2.same (heap_setCell_other _ _ _ _ fun e => ?_)⟩
      have e' : (set1 Y (nl m d k).length (gp, cp) i).1 = w0.heap.size + 1 := e
      rw [e'] at hin
      exact var_not_el hv' hin.2
  · exact (h.bel.grown hg h.bel.size fun g e => by have := (h.ps.lt g e).1; omega).setCell (by simp) _
set_option maxRecDepth 100000 in
set_option maxHeartbeats 8000000 in
/-- The closure of impl.field.normalPermuting. -/
theorem npClo (m d k g : Nat) (w0 wr w : World) (v : Value) (Y : Nat → Nat × Nat) (h : isSz (m : Int) = true) (hdm : d < m) (hfew : (nl m d k).length ≤ 117649) (hn : NQ w0 wr m d k v Y) (hb : Below wr.heap.size wr w) (hg0 : wr.heap.size ≤ g) (hg : g < w.heap.size) (he : Els w g (m : Int) (pf m d (m * k)) (d + 1)) :
    Calls Try.prog 80 #[polyE (m : Int) (.slice (some ⟨g, 0, none⟩) (d + 1) (d + 1)), .pointer (some ⟨w0.heap.size + 1, 0, none⟩)] w fun e w'' => e = .returned (.tuple #[]) ∧ ∃ v' Y', NQ w0 w'' m d (k + 1) v' Y' := by
  obtain ⟨pi, hpi, pz0, pz1, pz2⟩ := info_parts Try.infoP
  have hq := isSz_le (m : Int) h
  have HNE : Hid (v.ownBlock ≠ some g) := Lib.hid fun e => by
    have h1 := (hn.ps.lt g e).2
    omega
  have hnw := hn.below hb
  have HNR := Lib.hid (fun w' (hg : g < w'.heap.size) (he : Els w' g (m : Int) (pf m d (m * k)) (d + 1)) => isNormalE m g (d + 1) (d + 1) (pf m d (m * k)) w' h hg he (fun i _ => pf_el d _ (by omega) i) (by omega))
  have HPM : Hid (∀ w', g < w'.heap.size → Els w' g (m : Int) (pf m d (m * k)) (d + 1) → Calls Try.prog 82 #[polyE (m : Int) (.slice (some ⟨g, 0, none⟩) (d + 1) (d + 1))] w' fun e w'' => e = .returned (.bool (pp m d (m * k))) ∧ Below w'.heap.size w' w'') := Lib.hid fun w' hg he => by
    have := permutesE m g (d + 1) (d + 1) (pf m d (m * k)) w' h hg he (fun i => pf_el d _ (by omega) i) (by omega)
    rw [← dis_onto fun i hi => tab_el h (fun i => pf_el d _ (by omega) i) i hi] at this
    exact this
  have HKP : Hid (kp m d (m * k) = (nrm m (pf m d (m * k)) (d + 1) && pp m d (m * k))) := Lib.hid rfl
  have hB1 := (Below.refl w.heap.size w).alloc (Nat.le_refl _) (pblk (m : Int) (.slice (some ⟨g, 0, none⟩) (d + 1) (d + 1)))
  have HE1 := Lib.hid (he.below hB1 hg)
  have HN1 := Lib.hid (hnw.below hB1)
  have HQ1 := Lib.hid (heap_alloc_new w (pblk (m : Int) (.slice (some ⟨g, 0, none⟩) (d + 1) (d + 1))))
  clear h hn hb hg0 he hnw hB1
  generalize nrm m (pf m d (m * k)) (d + 1) = rn at *
  generalize pp m d (m * k) = rp at *
  go_enter Try.func80, Try.ntmps80
  go_wp2_with fail
  refine (HNR.out _ (by simp; omega) HE1.out).mono ?_
  rintro e w7 ⟨rfl, hb7⟩
  have q7 := (hb7.block w.heap.size (by simp)).trans HQ1.out
  have hN7 := HN1.out.below hb7
  have hz7 := hb7.size
  simp at hz7
  have hgl7 : g < w7.heap.size := by omega
  have HE7 := Lib.hid (HE1.out.same (hb7.block _ (by simp; omega)))
  clear hb7
  obtain ⟨p0, p1, p2, p3, pf, pl0⟩ := cells4 q7
  have HN7 := Lib.hid hN7
  have HQ7 := Lib.hid q7
  clear hN7 q7
  cases rn with
  | false =>
    go_wp2
    first | (refine bodyPost_ret (results_none rfl _ _ _) rfl ?_) | go_end0
    exact ⟨rfl, v, Y, HN7.out.skip (by rw [HKP.out]; rfl)⟩
  | true =>
    go_wp2_with fail
    refine (HPM.out _ hgl7 HE7.out).mono ?_
    rintro e w8 ⟨rfl, hb8⟩
    have q8 := (hb8.block _ pl0).trans HQ7.out
    have hN8 := HN7.out.below hb8
    have hz8 := hb8.size
    have hgl8 : g < w8.heap.size := by omega
    have HE8 := Lib.hid (HE7.out.same (hb8.block _ hgl7))
    clear p0 p1 p2 p3 pf pl0 hb8
    obtain ⟨p0, p1, p2, p3, pf, pl0⟩ := cells4 q8
    have HN8 := Lib.hid hN8
    clear q8
    cases rp with
    | false =>
      clear hN8
      go_wp2
      first | (refine bodyPost_ret (results_none rfl _ _ _) rfl ?_) | go_end0
      exact ⟨rfl, v, Y, HN8.out.skip (by rw [HKP.out]; rfl)⟩
    | true =>
      have hvc := at_box hN8.hv
      have lv : w0.heap.size + 1 < w8.heap.size := World.block_lt_of_cell? w8 _ hvc
      have HOUT := Lib.hid (owns_kept (w' := w8.alloc (.cells #[.int .i64 m, .int .i64 (pr m), .int .i64 (pl m), .slice (some ⟨g, 0, none⟩) (d + 1) (d + 1)] 46)) hN8.ps.outer fun g hg => Below.heap_alloc w8 _ g (hN8.ps.lt g hg).2)
      have HN9 := Lib.hid (hN8.below ((Below.refl _ _).alloc (Nat.le_refl _) (.cells #[.int .i64 m, .int .i64 (pr m), .int .i64 (pl m), .slice (some ⟨g, 0, none⟩) (d + 1) (d + 1)] 46)))
      obtain ⟨av, capv, hve⟩ := owns_slice' hN8.ps.outer
      have HVE := Lib.hid hve
      clear hN8 hve
      go_wp2_with (at_builtin; refine wpList_append_own _ rfl _ _ 66 rfl (w0.heap.size + 3) 46 pi (.agg #[.int .i64 0, .int .i64 0, .int .i64 0, .slice none 0 0]) 4 48 Try.underlying66 hpi pz0 pz1 pz2 rfl (by decide) _ _ _ rfl HOUT.out ⟨w8.heap.size, 0, none⟩ 1 1 (pcell m d (g, d + 1)) rfl rfl ?c1 ?c2 ?c3 ?c4 ?c5 ?_)
      case c1 => exact cells_new w8 _ _
      case c2 => intro u hu; simp [pcell] at hu; rcases hu with rfl | rfl | rfl | rfl <;> rfl
      case c3 => unfold maxLen; omega
      case c4 => omega
      case c5 => simp; omega
      intro v' w9 hown hgrow _
      obtain ⟨hv9, hN10⟩ := HN9.out.take (by rw [HKP.out]; rfl) hgrow hown (by simp; omega) (HE8.out.same (Below.heap_alloc w8 _ g hgl8)) HNE.out
      have hvc9 := at_box hv9
      have hvf9 := frozen_of_row w9 (w0.heap.size + 1) 0 _ _ hv9
      have HN10 := Lib.hid hN10
      obtain ⟨av', capv', hve'⟩ := owns_slice' hown
      subst hve'
      clear hown hgrow hN10 hvc
      go_wp2
      first | (refine bodyPost_ret (results_none rfl _ _ _) rfl ?_) | go_end0
      exact ⟨rfl, _, _, HN10.out⟩
set_option maxRecDepth 100000 in
set_option maxHeartbeats 8000000 in
/-- impl.field.normalPermuting. -/
theorem normalPermutingE (m d : Nat) (w : World) (h : isSz (m : Int) = true) (h7 : m ≤ 7) (hd : 1 ≤ d) (hdm : d < m) :
    Calls Try.prog 51 #[fdE m, .int .i64 d] w fun e w' => ∃ v Y, e = .returned v ∧ PS w' w.heap.size v m d (nl m d (m ^ (d - 1))) Y ∧ Below w.heap.size w w' := by
  have hq := isSz_le (m : Int) h
  have hPQ : m ^ d = m * m ^ (d - 1) := by
    obtain ⟨b, hb⟩ : ∃ b, d = b + 1 := ⟨d - 1, by omega⟩
    rw [hb, Nat.add_sub_cancel, Nat.pow_succ, Nat.mul_comm]
  have hP := pow_few' h7 hdm
  have hT3 := three w (ffblk (m : Int)) (.cells #[.slice none 0 0] 66) (ffblk (m : Int))
  have hsz : ((w.alloc (ffblk (m : Int))).alloc (.cells #[.slice none 0 0] 66)).heap.size = w.heap.size + 2 := by simp
  have HEP := Lib.hid (eachPlain_NP m d (m ^ (d - 1)) (w.heap.size + 1) (fun k wr => ∃ v Y, NQ w wr m d k v Y) ((w.alloc (ffblk (m : Int))).alloc (.cells #[.slice none 0 0] 66)) h hdm hP
    (fun k hk => by rw [hPQ]; exact (Nat.mul_lt_mul_left (by omega)).2 hk) (Nat.le_of_eq hPQ) (by omega)
    ⟨.slice none 0 0, fun _ => (0, 0), hT3.2.2, hT3.2.1, PS.nil _ _ _ _ _, by (repeat' (first | (with_reducible assumption) | (with_reducible exact Below.refl _ _) | (with_reducible refine below_drewN ?_ _) | (with_reducible refine Below.drew ?_) | (with_reducible refine Below.alloc ?_ ?_ _) | (with_reducible refine Below.setCell ?_ ?_ _) | (with_reducible refine Below.trans ?_ (Below.mono (by assumption) ?_)) | (with_reducible exact Nat.le_refl _) | (with_reducible assumption) | omega | (simp; omega) | (simp; done)))⟩
    (fun k w' ⟨v, Y, hn⟩ => by rw [hsz]; exact hn.hf)
    (fun k w1 w2 ⟨v, Y, hn⟩ hb => ⟨v, Y, hn.below hb⟩)
    (fun k g wr w' hk ⟨v, Y, hn⟩ hb hg0 hg he => npClo m d k g w wr w' v Y h hdm (Nat.le_trans (nl_len m d k) (Nat.le_trans (Nat.le_of_lt hk) (Nat.le_trans (Nat.pow_le_pow_right (by omega) (Nat.sub_le d 1)) hP))) hn hb hg0 hg he))
  clear h hT3 hPQ hP hsz
  generalize m ^ (d - 1) = Q at *
  go_enter Try.func51, Try.ntmps51
  go_wp2_with fail
  refine HEP.out.mono ?_
  rintro e w1 ⟨rfl, v, Y, hn⟩
  have hvc := at_box hn.hv
  have HN := Lib.hid hn
  obtain ⟨av, capv, hve⟩ := owns_slice' hn.ps.outer
  subst hve
  clear hn
  go_wp2
  go_ret
  exact ⟨_, Y, rfl, HN.out.ps.mono (by omega), HN.out.bel⟩
end Go.Proofs.Ytnmdcmbcackchab
