/- Slices of slices of integers, each in its own memory; what the laws do with them. -/
import Derived.Test.YtapglncgicfjnabGreatLD
namespace Go.Proofs.YtapglncgicfjnabGreat
open Go.RowKit
theorem Tryz.infoR : (Tryz.prog.info? 24).map (fun i => (i.zero, i.size, i.bytes)) = some (some (.slice none 0 0), 1, 24) := by kernel_rfl
def flv (X : Nat → Value) (n : Nat) : List Value := (List.range n).map X
theorem flv_len (X : Nat → Value) (n : Nat) : (flv X n).length = n := by simp [flv]
theorem flv_succ (X : Nat → Value) (n : Nat) : flv X (n + 1) = flv X n ++ [X n] := by simp [flv, List.range_succ]
theorem flv_get (X : Nat → Value) (n i : Nat) (h : i < n) : (flv X n)[i]? = some (X i) := by simp [flv, h]
theorem flv_congr {X Y : Nat → Value} {n : Nat} (h : ∀ i, i < n → X i = Y i) : flv X n = flv Y n := by
  unfold flv
  exact List.map_congr_left fun i hi => h i (List.mem_range.1 hi)
/-- One place changed. -/
def set1 {α : Type} (f : Nat → α) (i : Nat) (x : α) : Nat → α := fun j => if j = i then x else f j
theorem set1_at {α : Type} (f : Nat → α) (i : Nat) (x : α) : set1 f i x i = x := by simp [set1]
theorem set1_ne {α : Type} (f : Nat → α) (i j : Nat) (x : α) (h : j ≠ i) : set1 f i x j = f j := by simp [set1, h]
/-- n slices of integers, each in its own memory, from block B on. -/
structure RS (w : World) (B : Nat) (v : Value) (n : Nat) (F : Nat → List Int) (X : Nat → Value) : Prop where
  outer : w.ownsRow B 24 1 v n (flv X n)
  inner : ∀ i, i < n → Row w B (X i) (F i)
  apart : ∀ i j, i < j → j < n → ∀ g, (X i).ownBlock = some g → (X j).ownBlock ≠ some g
theorem outer_ne {w : World} {B B' n : Nat} {v u : Value} {xs : List Value} {l : List Int} (h : w.ownsRow B 24 1 v n xs) (hu : Row w B' u l) {g : Nat} (hg : u.ownBlock = some g) : v.ownBlock ≠ some g := by
  intro e
  rcases h.2 with ⟨rfl, _⟩ | ⟨g1, c1, cur1, rfl, _, h1, _⟩
  · simp [Value.ownBlock] at e
  · rcases hu.2 with ⟨rfl, _⟩ | ⟨g2, c2, cur2, rfl, _, h2, _⟩
    · simp [Value.ownBlock] at hg
    · simp [Value.ownBlock] at e hg
      subst e
      subst hg
      rw [h1] at h2
      simp at h2
theorem outer_kept {w w' : World} {B n : Nat} {v : Value} {xs : List Value} (h : w.ownsRow B 24 1 v n xs) (hk : ∀ g, v.ownBlock = some g → w'.heap[g]? = w.heap[g]?) : w'.ownsRow B 24 1 v n xs := by
  refine ⟨h.1, ?_⟩
  rcases h.2 with hn | ⟨g, cap, cur, rfl, hb, hgg, rest⟩
  · exact .inl hn
  · exact .inr ⟨g, cap, cur, rfl, hb, (hk g rfl).trans hgg, rest⟩
theorem RS.nil (w : World) (B : Nat) (F : Nat → List Int) (X : Nat → Value) : RS w B (.slice none 0 0) 0 F X :=
  ⟨World.ownsRow_nil _ _ _ _, fun _ hi => absurd hi (Nat.not_lt_zero _), fun _ _ _ hj => absurd hj (Nat.not_lt_zero _)⟩
theorem RS.keep {w w' : World} {B n : Nat} {v : Value} {F : Nat → List Int} {X : Nat → Value} (h : RS w B v n F X) (ho : ∀ g, v.ownBlock = some g → w'.heap[g]? = w.heap[g]?) (hi : ∀ i, i < n → ∀ g, (X i).ownBlock = some g → w'.heap[g]? = w.heap[g]?) : RS w' B v n F X :=
  ⟨outer_kept h.outer ho, fun i hin => (h.inner i hin).keep (hi i hin), h.apart⟩
theorem RS.lt {w : World} {B n : Nat} {v : Value} {F : Nat → List Int} {X : Nat → Value} (h : RS w B v n F X) : ∀ g, v.ownBlock = some g → B ≤ g ∧ g < w.heap.size := World.ownsRow.lt h.outer
theorem RS.below {w w' : World} {B n : Nat} {v : Value} {F : Nat → List Int} {X : Nat → Value} (h : RS w B v n F X) (hb : Below w.heap.size w w') : RS w' B v n F X :=
  h.keep (fun g hg => hb.block g (h.lt g hg).2) (fun i hi g hg => hb.block g ((h.inner i hi).lt g hg).2)
theorem RS.alloc {w : World} {B n : Nat} {v : Value} {F : Nat → List Int} {X : Nat → Value} (h : RS w B v n F X) (o : Obj) : RS (w.alloc o) B v n F X :=
  h.below ((Below.refl _ _).alloc (Nat.le_refl _) o)
theorem RS.mono {w : World} {B B' n : Nat} {v : Value} {F : Nat → List Int} {X : Nat → Value} (h : RS w B v n F X) (hB : B' ≤ B) : RS w B' v n F X := by
  refine ⟨⟨h.outer.1, ?_⟩, fun i hi => (h.inner i hi).mono hB, h.apart⟩
  rcases h.outer.2 with hn | ⟨g, cap, cur, rfl, hb, rest⟩
  · exact .inl hn
  · exact .inr ⟨g, cap, cur, rfl, by omega, rest⟩
theorem RS.congr {w : World} {B n : Nat} {v : Value} {F F' : Nat → List Int} {X : Nat → Value} (h : RS w B v n F X) (e : ∀ i, i < n → F i = F' i) : RS w B v n F' X :=
  ⟨h.outer, fun i hi => by rw [← e i hi]; exact h.inner i hi, h.apart⟩
theorem RS.form {w : World} {B n : Nat} {v : Value} {F : Nat → List Int} {X : Nat → Value} (h : RS w B v n F X) (hn : 0 < n) : ∃ g cap, v = .slice (some ⟨g, 0, none⟩) n cap ∧ B ≤ g ∧ g < w.heap.size ∧ ∀ i, i < n → w.cell? ⟨g, i, none⟩ = some (X i) := by
  rcases h.outer.2 with ⟨_, h0⟩ | ⟨g, cap, cur, rfl, hb, hgg, rest⟩
  · omega
  · refine ⟨g, cap, rfl, hb, (Array.getElem?_eq_some_iff.1 hgg).1, fun i hi => ?_⟩
    have := World.ownsRow.cells h.outer (g := g) rfl i (X i) (flv_get X n i hi)
    have hadd : (⟨g, 0, none⟩ : Addr).add i = ⟨g, i, none⟩ := by unfold Addr.add; split <;> simp_all
    rwa [hadd] at this
theorem RS.empty {w : World} {B : Nat} {v : Value} {F : Nat → List Int} {X : Nat → Value} (h : RS w B v 0 F X) : ∃ a cap, v = .slice a 0 cap := by
  rcases h.outer.2 with ⟨rfl, _⟩ | ⟨g, cap, cur, rfl, _⟩
  · exact ⟨_, _, rfl⟩
  · exact ⟨_, _, rfl⟩
/-- One more slice. -/
theorem RS.appended {w w' : World} {B n : Nat} {v v' u : Value} {F : Nat → List Int} {X : Nat → Value} {l : List Int} (h : RS w B v n F X) (hg : w.grownBy w' v.ownBlock) (hown : w'.ownsRow B 24 1 v' (n + 1) (flv X n ++ [u])) (hu : Row w B u l)
    (ha : ∀ i, i < n → ∀ g, (X i).ownBlock = some g → u.ownBlock ≠ some g) : RS w' B v' (n + 1) (set1 F n l) (set1 X n u) := by
  have hi : ∀ i, i < n → set1 X n u i = X i := fun i hi => set1_ne _ _ _ _ (by omega)
  refine ⟨?_, ?_, ?_⟩
  · rw [flv_succ, set1_at, flv_congr hi]
    exact hown
  · intro i hin
    by_cases e : i = n
    · subst e
      rw [set1_at, set1_at]
      exact hu.keep fun g hgg => hg.block g (hu.lt g hgg).2 fun e => outer_ne h.outer hu hgg e.symm
    · rw [set1_ne _ _ _ _ e, set1_ne _ _ _ _ e]
      have hr := h.inner i (by omega)
      exact hr.keep fun g hgg => hg.block g (hr.lt g hgg).2 fun e => outer_ne h.outer hr hgg e.symm
  · intro i j hij hj g hgg
    rw [hi i (by omega)] at hgg
    by_cases e : j = n
    · subst e
      rw [set1_at]
      exact ha i (by omega) g hgg
    · rw [set1_ne _ _ _ _ e]
      exact h.apart i j hij (by omega) g hgg
/-- One slice written anew. -/
theorem RS.wrote {w w' : World} {B n i : Nat} {v : Value} {F : Nat → List Int} {X : Nat → Value} {l : List Int} (h : RS w B v n F X) (hi : i < n) (hr : Row w' B (X i) l) (hg : w.grownBy w' (X i).ownBlock) : RS w' B v n (set1 F i l) X := by
  refine ⟨outer_kept h.outer fun g hgg => hg.block g (h.lt g hgg).2 fun e => outer_ne h.outer (h.inner i hi) e.symm hgg, ?_, h.apart⟩
  intro j hj
  by_cases e : j = i
  · subst e
    rw [set1_at]
    exact hr
  · rw [set1_ne _ _ _ _ e]
    have hrj := h.inner j hj
    refine hrj.keep fun g hgg => hg.block g (hrj.lt g hgg).2 fun e' => ?_
    rcases Nat.lt_or_gt_of_ne e with c | c
    · exact h.apart j i c hi g hgg e'.symm
    · exact h.apart i j c hj g e'.symm hgg
/-- How many numbers there are before the slice i. -/
def ofs (F : Nat → List Int) : Nat → Nat
  | 0 => 0
  | k + 1 => ofs F k + (F k).length
theorem ofs_le (F : Nat → List Int) {i n : Nat} (h : i ≤ n) : ofs F i ≤ ofs F n := by
  induction n with
  | zero => obtain rfl : i = 0 := by omega
            exact Nat.le_refl _
  | succ n ih =>
    by_cases e : i = n + 1
    · subst e; exact Nat.le_refl _
    · have := ih (by omega)
      simp only [ofs]
      omega
theorem ofs_len (F : Nat → List Int) {i n : Nat} (h : i < n) : ofs F i + (F i).length ≤ ofs F n := ofs_le F (show i + 1 ≤ n from h)
theorem ofs_congr {F G : Nat → List Int} {n : Nat} (h : ∀ i, i < n → F i = G i) : ofs F n = ofs G n := by
  induction n with
  | zero => rfl
  | succ n ih => rw [ofs, ofs, ih fun i hi => h i (by omega), h n (by omega)]
/-- The first i slices marked. -/
def mkF (F : Nat → List Int) (k : Int) (i : Nat) : Nat → List Int := fun j => if j < i then mrk (k + (ofs F j : Nat)) (F j).length else F j
theorem mkF_zero (F : Nat → List Int) (k : Int) : mkF F k 0 = F := by funext j; simp [mkF]
theorem mkF_at (F : Nat → List Int) (k : Int) (i : Nat) : mkF F k i i = F i := by simp [mkF]
theorem mkF_succ (F : Nat → List Int) (k : Int) (i : Nat) : set1 (mkF F k i) i (mrk (k + (ofs F i : Nat)) (F i).length) = mkF F k (i + 1) := by
  funext j
  by_cases e : j = i
  · subst e
    rw [set1_at]
    simp [mkF]
  · rw [set1_ne _ _ _ _ e]
    unfold mkF
    by_cases h : j < i
    · rw [if_pos h, if_pos (by omega)]
    · rw [if_neg h, if_neg (by omega)]
theorem mkF_of (F : Nat → List Int) (k : Int) {i n : Nat} (h : i < n) : mkF F k n i = mrk (k + (ofs F i : Nat)) (F i).length := by simp [mkF, h]
end Go.Proofs.YtapglncgicfjnabGreat
