/- impl.poly.padded by a contract. -/
import Derived.Test.YthklnfanbegecabIA
namespace Go.Proofs.Ythklnfanbegecab
open Go.RowKit
theorem Els.cellAt {w : World} {g n : Nat} {q : Int} {f : Nat → Int} (h : Els w g q f n) (j b : Nat) (hj : j < n) (hb : b < 7) : w.cell? ⟨g, j * 7 + b, none⟩ = (el7 q (f j))[b]? := by
  obtain ⟨h0, h1, h2, h3, h4, h5, h6⟩ := h j hj
  match b, hb with
  | 0, _ => exact h0
  | 1, _ => exact h1
  | 2, _ => exact h2
  | 3, _ => exact h3
  | 4, _ => exact h4
  | 5, _ => exact h5
  | 6, _ => exact h6
theorem Els.of {w : World} {g n : Nat} {q : Int} {f : Nat → Int} (h : ∀ j b, j < n → b < 7 → w.cell? ⟨g, j * 7 + b, none⟩ = (el7 q (f j))[b]?) : Els w g q f n := fun j hj =>
  ⟨h j 0 hj (by omega), h j 1 hj (by omega), h j 2 hj (by omega), h j 3 hj (by omega), h j 4 hj (by omega), h j 5 hj (by omega), h j 6 hj (by omega)⟩
theorem Els.copied {w w' : World} {g m n : Nat} {q : Int} {f : Nat → Int} {cur : List Value} (hcur : w.heap[g]? = some (.cells cur.toArray 46 (0, 0))) (hl : cur.length = m * 7) (he : Els w g q (fun _ => 0) m) (hn : n ≤ m) (zf : ∀ i, n ≤ i → f i = 0)
    (h : w'.heap[g]? = some (.cells (splice cur 0 (elc q f n)).toArray 46 (0, 0))) : Blk w' g m ∧ Els w' g q f m := by
  have hsz : (splice cur 0 (elc q f n)).length = m * 7 := by rw [length_splice _ _ _ (by rw [elc_len]; omega), hl]
  refine ⟨⟨_, h, by simpa using hsz⟩, Els.of fun j b hj hb => ?_⟩
  rw [cell_of_row w' g _ _ _ (0, 0) h, List.getElem?_toArray]
  unfold splice
  rw [List.take_zero, List.nil_append, elc_len]
  by_cases hjn : j < n
  · rw [List.getElem?_append_left (by rw [elc_len]; omega), elc_get q f n j b hjn hb]
  · rw [List.getElem?_append_right (by rw [elc_len]; omega), elc_len, List.getElem?_drop, zf j (by omega), ← he.cellAt j b hj hb, cell_of_row w g _ _ _ (0, 0) hcur, List.getElem?_toArray]
    congr 1
    omega
set_option maxHeartbeats 2000000 in
/-- impl.poly.padded. -/
theorem paddedE (m n : Nat) (v : Value) (f : Nat → Int) (w : World) (h : isSz (m : Int) = true) (hv : Se w v (m : Int) f n) (hn : n ≤ m) (zf : ∀ i, n ≤ i → f i = 0) :
    Calls Try.prog 80 #[polyE (m : Int) v] w fun e w' => ∃ g, e = .returned (.slice (some ⟨g, 0, none⟩) m m) ∧ w.heap.size ≤ g ∧ Blk w' g m ∧ Els w' g (m : Int) f m ∧ Below w.heap.size w w' := by
  obtain ⟨i0, hi, iz0, iz1, iz2⟩ := info_parts Try.infoE
  have hq := isSz_le (m : Int) h
  have HZ := Lib.hid (fun w => zerosE (m : Int) m w h (by omega))
  obtain ⟨g1, cap1, rfl, hg1, he1⟩ := hv
  have HSRC := Lib.hid (fun w' (hb : Below w.heap.size w w') => elc_cells (he1.below hb hg1))
  have hsz : (Try.prog.info? 46).map (fun i => i.size) = some 7 := by rw [hi]; simp [iz1]
  have hmin : Nat.min n m = n := Nat.min_eq_left hn
  have HCP : Hid (∀ (w w' : World) (g : Nat) (cur : List Value), w.heap[g]? = some (.cells cur.toArray 46 (0, 0)) → cur.length = m * 7 → Els w g (m : Int) (fun _ => 0) m → w'.heap[g]? = some (.cells (splice cur 0 (elc (m : Int) f n)).toArray 46 (0, 0)) → Blk w' g m ∧ Els w' g (m : Int) f m) := Lib.hid fun w w' g cur h1 h2 h3 h4 => h3.copied h1 h2 hn zf h4
  have HX1 := Lib.hid (elc_one (m : Int) f n)
  have hXL := elc_len (m : Int) f n
  generalize elc (m : Int) f n = X at *
  clear h he1 zf
  go_enter Try.func80, Try.ntmps80
  go_wp2_with fail
  refine (HZ.out _).mono ?_
  rintro e w1 ⟨g, rfl, hg, hk1, he1, hb1⟩
  simp at hg
  obtain ⟨cu, hcu, hcs⟩ := hk1
  obtain ⟨cur, rfl⟩ : ∃ cur : List Value, cu = cur.toArray := ⟨cu.toList, by simp⟩
  have hcl : cur.length = m * 7 := by simpa using hcs
  have HCUR := Lib.hid hcu; clear hcu hcs
  have HE1 := Lib.hid he1; clear he1
  have HBW : Hid (Below w.heap.size w w1) := Lib.hid (by (repeat' (first | (with_reducible assumption) | (with_reducible exact Below.refl _ _) | (with_reducible refine below_drewN ?_ _) | (with_reducible refine Below.drew ?_) | (with_reducible refine Below.alloc ?_ ?_ _) | (with_reducible refine Below.setCell ?_ ?_ _) | (with_reducible refine Below.trans ?_ (Below.mono (by assumption) ?_)) | (with_reducible exact Nat.le_refl _) | (with_reducible assumption) | omega | (simp; omega) | (simp; done))))
  have hgl : g < w1.heap.size := (Array.getElem?_eq_some_iff.1 HCUR.out).1
  obtain ⟨hc1, hf1⟩ := bcell hb1; have hz1 := hb1.size; (try simp at hz1); have HB1 := Lib.hid hb1; clear hb1
  have l1 : w.heap.size < w1.heap.size := by omega
  have HXS := Lib.hid (HSRC.out _ HBW.out)
  have hfit : 0 + X.length ≤ cur.length := by rw [hXL, hcl]; omega
  go_wp2_with (with_reducible refine wpList_copy_many (sz := 7) rfl _ _ 40 40 rfl 46 Try.underlying40 hsz _ _ _ _ _ _ rfl rfl g 0 cur 46 HCUR.out X ?d1 ?d2 hfit HX1.out w.heap.size w HBW.out (by omega) ?_)
  case d1 => rw [hXL, hmin]
  case d2 => intro _ j v hj; have := (HSRC.out w (Below.refl _ _)) j v hj; rw [add_off, Nat.zero_add] at this; exact this
  intro w2 HG2 hb2
  obtain ⟨hk2, he2⟩ := HCP.out _ _ _ _ HCUR.out hcl HE1.out HG2.out
  have HK2 := Lib.hid hk2
  have HE2 := Lib.hid he2
  have HB2 := Lib.hid hb2
  clear hk2 he2 hb2 HG2
  go_wp2
  go_ret
  exact ⟨g, rfl, by omega, HK2.out, HE2.out, HB2.out⟩
end Go.Proofs.Ythklnfanbegecab
