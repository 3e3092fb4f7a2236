/- slices.Clone of a slice of elements by a contract. -/
import Derived.Test.YthklnfanbegecacHI
import Derived.Test.YthklnfanbegecacHE
import Derived.Test.YthklnfanbegecacFG
namespace Go.Proofs.Ythklnfanbegecac
open Go.RowKit
/-- The cells of one element, of the first n. -/
def el7 (q a : Int) : List Value := [.int .i64 q, .int .i64 (pr q), .int .i64 (pl q), .int .i64 (dg q a 0), .int .i64 (dg q a 1), .int .i64 (dg q a 2), .int .i64 (dg q a 3)]
def elc (q : Int) (f : Nat → Int) : Nat → List Value
  | 0 => []
  | n + 1 => elc q f n ++ el7 q (f n)
theorem elc_len (q : Int) (f : Nat → Int) (n : Nat) : (elc q f n).length = n * 7 := by
  induction n with
  | zero => rfl
  | succ n ih => simp only [elc, List.length_append, ih, el7, List.length_cons, List.length_nil]; omega
theorem elc_get (q : Int) (f : Nat → Int) (n j b : Nat) (hj : j < n) (hb : b < 7) : (elc q f n)[j * 7 + b]? = (el7 q (f j))[b]? := by
  induction n with
  | zero => omega
  | succ n ih =>
    simp only [elc]
    by_cases h : j < n
    · rw [List.getElem?_append_left (by rw [elc_len]; omega)]
      exact ih h
    · obtain rfl : j = n := by omega
      rw [List.getElem?_append_right (by rw [elc_len]; omega), elc_len]
      congr 1
      omega
theorem elc_one (q : Int) (f : Nat → Int) (n : Nat) : ∀ u ∈ elc q f n, u.oneCell' = true := by
  induction n with
  | zero => intro u hu; simp [elc] at hu
  | succ n ih =>
    intro u hu
    simp only [elc, List.mem_append] at hu
    rcases hu with hu | hu
    · exact ih u hu
    · simp only [el7, List.mem_cons, List.not_mem_nil, or_false] at hu
      rcases hu with rfl | rfl | rfl | rfl | rfl | rfl | rfl <;> rfl
theorem elc_cells {w : World} {g n : Nat} {q : Int} {f : Nat → Int} (h : Els w g q f n) : ∀ j u, (elc q f n)[j]? = some u → w.cell? ((⟨g, 0, none⟩ : Addr).add j) = some u := by
  intro j u hj
  have hl := (List.getElem?_eq_some_iff.1 hj).1
  rw [elc_len] at hl
  have e : j = (j / 7) * 7 + j % 7 := by omega
  have h7 : j % 7 < 7 := Nat.mod_lt _ (by omega)
  have hjn : j / 7 < n := by omega
  rw [add_off, Nat.zero_add]
  rw [e, elc_get q f n _ _ hjn h7] at hj
  rw [e]
  generalize j / 7 = a at *
  generalize j % 7 = b at *
  obtain ⟨c0, c1, c2, c3, c4, c5, c6⟩ := h a hjn
  have hb : b = 0 ∨ b = 1 ∨ b = 2 ∨ b = 3 ∨ b = 4 ∨ b = 5 ∨ b = 6 := by omega
  rcases hb with rfl | rfl | rfl | rfl | rfl | rfl | rfl
  · simp [el7] at hj; subst hj; exact c0
  · simp [el7] at hj; subst hj; exact c1
  · simp [el7] at hj; subst hj; exact c2
  · simp [el7] at hj; subst hj; exact c3
  · simp [el7] at hj; subst hj; exact c4
  · simp [el7] at hj; subst hj; exact c5
  · simp [el7] at hj; subst hj; exact c6
/-- A row of elements of the call's own. -/
theorem els_of_owns {w : World} {B n g cap : Nat} {q : Int} {f : Nat → Int} (h : w.ownsRow B 46 7 (.slice (some ⟨g, 0, none⟩) n cap) n (elc q f n)) : Els w g q f n := fun j hj => by
  have hc : ∀ b, b < 7 → w.cell? ⟨g, j * 7 + b, none⟩ = (el7 q (f j))[b]? := fun b hb => by
    rw [World.ownsRow.cellAt h (j * 7 + b) (by omega), elc_get q f n j b hj hb]
  exact ⟨hc 0 (by omega), hc 1 (by omega), hc 2 (by omega), hc 3 (by omega), hc 4 (by omega), hc 5 (by omega), hc 6 (by omega)⟩
set_option maxHeartbeats 1000000 in
/-- slices.Clone of elements. -/
theorem cloneE (q : Int) (v : Value) (f : Nat → Int) (n : Nat) (w : World) (hv : Se w v q f n) (hn : n ≤ 1000) :
    Calls Try.prog 78 #[v] w fun e w' => ∃ g cap, e = .returned (.slice (some ⟨g, 0, none⟩) n cap) ∧ n ≤ cap ∧ w.heap.size ≤ g ∧ Blk w' g cap ∧ Els w' g q f n ∧ Below w.heap.size w w' := by
  obtain ⟨i0, hi, iz0, iz1, iz2⟩ := info_parts Try.infoE
  obtain ⟨g, cp, rfl, hg, he⟩ := hv
  have q22 : ∀ (w : World) (a : Option Addr) (n c n' c' : Nat), (binOp .eql 35 (.slice a n c) (.slice none n' c')).run Try.prog w = .ok (.bool a.isNone) w := fun w a n c n' c' => Lib.run_eql_slice_nil w _ _ a n c n' c' Try.underlying35
  have H0 : Hid ((w.alloc (.cells #[] 46)).ownsRow w.heap.size 46 7 (.slice (some ⟨w.heap.size, 0, none⟩) 0 0) 0 []) := Lib.hid (World.ownsRow_lit (base := w.heap.size) (e := 46) (size := 7) w #[] 0 (Nat.le_refl _) (by unfold maxLen; omega) rfl)
  have HE := Lib.hid (elc_cells (he.below (w' := w.alloc (.cells #[] 46)) (B := w.heap.size) (by (repeat' (first | (with_reducible assumption) | (with_reducible exact Below.refl _ _) | (with_reducible refine below_drewN ?_ _) | (with_reducible refine Below.drew ?_) | (with_reducible refine Below.alloc ?_ ?_ _) | (with_reducible refine Below.setCell ?_ ?_ _) | (with_reducible refine Below.trans ?_ (Below.mono (by assumption) ?_)) | (with_reducible exact Nat.le_refl _) | (with_reducible assumption) | omega | (simp; omega) | (simp; done)))) hg))
  clear he
  go_enter Try.func78, Try.ntmps78
  go_wp2_with (at_builtin; refine wpList_append_own _ rfl _ _ 35 rfl w.heap.size 46 i0 (.agg #[.int .i64 0, .int .i64 0, .int .i64 0, .int .i64 0, .int .i64 0, .int .i64 0, .int .i64 0]) 7 56 Try.underlying35 hi iz0 iz1 iz2 rfl (by decide) _ _ _ rfl H0.out ⟨g, 0, none⟩ n cp (elc q f n) rfl (elc_len _ _ _) HE.out (elc_one _ _ _) (by unfold maxLen; omega) (by omega) (by simp) ?_)
  intro v1 w1 hown hgrow hnil
  have hown' : w1.ownsRow w.heap.size 46 7 v1 n (elc q f n) := by simpa using hown
  have HB1 : Hid (Below w.heap.size w w1) := Lib.hid (Below.grown (by (repeat' (first | (with_reducible assumption) | (with_reducible exact Below.refl _ _) | (with_reducible refine below_drewN ?_ _) | (with_reducible refine Below.drew ?_) | (with_reducible refine Below.alloc ?_ ?_ _) | (with_reducible refine Below.setCell ?_ ?_ _) | (with_reducible refine Below.trans ?_ (Below.mono (by assumption) ?_)) | (with_reducible exact Nat.le_refl _) | (with_reducible assumption) | omega | (simp; omega) | (simp; done)))) hgrow (by simp) (fun g hg => (World.ownsRow.lt H0.out g hg).1))
  have hform : ∃ g1 cap1, v1 = .slice (some ⟨g1, 0, none⟩) n cap1 ∧ n ≤ cap1 ∧ w.heap.size ≤ g1 ∧ Blk w1 g1 cap1 := by
    rcases hown'.2 with ⟨hx, _⟩ | ⟨g1, cap1, cur, hx, hB, hh, hc, _, hsz, _⟩
    · exact (hnil hx).elim
    · exact ⟨g1, cap1, hx, hc, hB, cur, hh, hsz⟩
  obtain ⟨g1, cap1, rfl, hc1, hB1, hblk⟩ := hform
  have HBK := Lib.hid hblk
  have HEL := Lib.hid (els_of_owns hown')
  clear hown hown' hgrow hnil hblk
  go_wp2
  go_ret
  exact ⟨_, _, rfl, hc1, hB1, HBK.out, HEL.out, HB1.out⟩
end Go.Proofs.Ythklnfanbegecac
