/- A bundle of texts: IO. -/
import Derived.Deep.RegionHeld3
import Derived.Test.YtapglncgicfjnabGreatKN
import Derived.Test.YtapglncgicfjnabGreatKL
import Derived.Test.YtapglncgicfjnabGreatKA
import Derived.Test.YtapglncgicfjnabGreatKG
namespace Go.Proofs.YtapglncgicfjnabGreat
open Go.RowKit
theorem hor_vals {q x : Int} {f : Nat → Int} (h : isSz q = true) (hx : El q x) (hf : ∀ i, El q (f i)) (n k : Nat) (hk : k ≤ n) : hor q x f n k = val q (fun i => f (n - k + i)) k x := by
  induction k with
  | zero => rfl
  | succ k ih =>
    show addF q (mulF q (hor q x f n k) x) (f (n - 1 - k)) = lsum q (fun i => mulF q (f (n - (k + 1) + i)) (pw q x i)) (k + 1)
    have hu : ∀ i, El q (mulF q (f (n - (k + 1) + i)) (pw q x i)) := fun i => (hf _).mul h (El.pw h hx i)
    rw [ih (by omega), lsum_front h fun i _ => hu i]
    have e0 : mulF q (f (n - (k + 1) + 0)) (pw q x 0) = f (n - 1 - k) := by
      show mulF q (f (n - (k + 1) + 0)) 1 = _
      rw [(mul_one' h (hf _)).2]
      congr 1
      omega
    have e1 : lsum q (fun i => mulF q (f (n - (k + 1) + (i + 1))) (pw q x (i + 1))) k = mulF q (val q (fun i => f (n - k + i)) k x) x := by
      unfold val
      rw [← lsum_mulr h hx fun i _ => (hf _).mul h (El.pw h hx i)]
      refine lsum_congr fun i hi => ?_
      show mulF q (f (n - (k + 1) + (i + 1))) (mulF q (pw q x i) x) = _
      rw [← mul_assoc' h (hf _) (El.pw h hx i) hx, show n - (k + 1) + (i + 1) = n - k + i by omega]
    rw [e0, e1, add_comm' h (hf _) ((val_el h (fun i => hf _) hx k).mul h hx)]
theorem hor_val {q x : Int} {f : Nat → Int} (h : isSz q = true) (hx : El q x) (hf : ∀ i, El q (f i)) (n : Nat) : hor q x f n n = val q f n x := by
  rw [hor_vals h hx hf n n (Nat.le_refl _)]
  simp
theorem cmp_hor {m n k : Nat} {x : Int} {f g : Nat → Int} (h : isSz (m : Int) = true) (hf : ∀ i, El m (f i)) (hg : ∀ i, El m (g i)) (hx : El m x) (s : Nat) : val m (cmp m f n g k s).1 m x = hor m (val m g k x) f n s := by
  induction s with
  | zero => exact cmp_val0 h hx
  | succ s ih => rw [cmp_val h hf hg hx, ih]; rfl
/-- The first m values, 0 behind. -/
def clm (m : Nat) (t : Nat → Int) : Nat → Int := fun i => if i < m then t i else 0
theorem clm_el {m : Nat} {t : Nat → Int} (h : isSz (m : Int) = true) (ht : ∀ i, i < m → El m (t i)) (i : Nat) : El m (clm m t i) := by
  unfold clm
  split
  · exact ht i (by assumption)
  · exact El.zero h
theorem Se.like {w : World} {v : Value} {n : Nat} {q : Int} {f f' : Nat → Int} (h : Se w v q f n) (e : ∀ i, i < n → f i = f' i) : Se w v q f' n := by
  obtain ⟨g, cap, rfl, hg, he⟩ := h
  exact ⟨g, cap, rfl, hg, he.congr e⟩
theorem tab_el {m k : Nat} {g : Nat → Int} (h : isSz (m : Int) = true) (hg : ∀ i, El m (g i)) (i : Nat) (hi : i < m) : El m (tabF m g k i) := hor_el h (El.nat hi) (fun j _ => hg j) k (Nat.le_refl _)
/-- The table of a joined polynomial. -/
def tabC (m : Nat) (f : Nat → Int) (n : Nat) (g : Nat → Int) (k : Nat) : Nat → Int := fun a => hor m (tabF m g k a) f n n
theorem tabC_el {m n k : Nat} {f g : Nat → Int} (h : isSz (m : Int) = true) (hf : ∀ i, El m (f i)) (hg : ∀ i, El m (g i)) (i : Nat) (hi : i < m) : El m (tabC m f n g k i) := hor_el h (tab_el h hg i hi) (fun j _ => hf j) n (Nat.le_refl _)
theorem compose_same {m n k : Nat} {f g : Nat → Int} (h : isSz (m : Int) = true) (hf : ∀ i, El m (f i)) (hg : ∀ i, El m (g i)) :
    fl (redR m (tms m (clm m (tabC m f n g k))) m) (redn m (tms m (clm m (tabC m f n g k))) m) = fl (cmp m f n g k n).1 (cmp m f n g k n).2 ∧ redn m (tms m (clm m (tabC m f n g k))) m = (cmp m f n g k n).2 := by
  have ok := cmp_ok (n := n) (k := k) h hf hg n
  refine back_same h ok.el (clm_el h (tabC_el h hf hg)) (fun a ha => ?_) ok.le ok.past ok.tr
  rw [cmp_hor h hf hg (El.nat ha)]
  unfold clm tabC tabF
  rw [if_pos ha, hor_val h (El.nat ha) hg k]
/-- The table of a power. -/
def tabP (m : Nat) (f : Nat → Int) (n K : Nat) : Nat → Int := fun a => pw m (tabF m f n a) K
theorem tabP_el {m n K : Nat} {f : Nat → Int} (h : isSz (m : Int) = true) (hf : ∀ i, El m (f i)) (i : Nat) (hi : i < m) : El m (tabP m f n K i) := El.pw h (tab_el h hf i hi) K
theorem power_same {m n K : Nat} {f : Nat → Int} (h : isSz (m : Int) = true) (hf : ∀ i, El m (f i)) :
    fl (redR m (tms m (clm m (tabP m f n K))) m) (redn m (tms m (clm m (tabP m f n K))) m) = fl (pwr m f n K).1 (pwr m f n K).2 ∧ redn m (tms m (clm m (tabP m f n K))) m = (pwr m f n K).2 := by
  have ok := pwr_ok (n := n) h hf K
  refine back_same h ok.el (clm_el h (tabP_el h hf)) (fun a ha => ?_) ok.le ok.past ok.tr
  rw [pwr_val h hf (El.nat ha)]
  unfold clm tabP tabF
  rw [if_pos ha, hor_val h (El.nat ha) hf n]
/-- The table of a polynomial, at a number of elements that is told as such. -/
theorem tableM (m : Nat) (g n cap : Nat) (f : Nat → Int) (w : World) (h : isSz (m : Int) = true) (hg : g < w.heap.size) (he : Els w g (m : Int) f n) (hf : ∀ i, i < n → El (m : Int) (f i)) (hn : n ≤ 1000) :
    Calls Tryz.prog 208 #[polyE (m : Int) (.slice (some ⟨g, 0, none⟩) n cap)] w fun e w' => ∃ g', e = .returned (.slice (some ⟨g', 0, none⟩) m m) ∧ w.heap.size ≤ g' ∧ Blk w' g' m ∧ Els w' g' (m : Int) (tabF m f n) m ∧ Below w.heap.size w w' := by
  have := tableE (m : Int) g n cap f w h hg he hf hn
  rw [Int.toNat_natCast] at this
  exact this
/-- x + a. -/
def sft (a : Int) : Nat → Int := fun j => if j = 0 then a else if j = 1 then 1 else 0
theorem sft_el {q a : Int} (h : isSz q = true) (ha : El q a) (i : Nat) : El q (sft a i) := by
  unfold sft
  split
  · exact ha
  · split
    · exact El.one h
    · exact El.zero h
theorem sft_lit (m : Nat) (a : Int) (w1 : World) : Se (w1.alloc (.cells #[.int .i64 m, .int .i64 (pr m), .int .i64 (pl m), .int .i64 (dg m a 0), .int .i64 (dg m a 1), .int .i64 (dg m a 2), .int .i64 (dg m a 3), .int .i64 m, .int .i64 (pr m), .int .i64 (pl m), .int .i64 (dg m 1 0), .int .i64 (dg m 1 1), .int .i64 (dg m 1 2), .int .i64 (dg m 1 3)] 70)) (.slice (some ⟨w1.heap.size, 0, none⟩) 2 2) (m : Int) (sft a) 2 := by
  refine ⟨w1.heap.size, 2, rfl, by simp, Els.of fun j b hj hb => ?_⟩
  rw [cell_of_row _ _ _ _ _ (0, 0) (heap_alloc_new w1 _)]
  match j, hj with
  | 0, _ => match b, hb with
    | 0, _ => rfl
    | 1, _ => rfl
    | 2, _ => rfl
    | 3, _ => rfl
    | 4, _ => rfl
    | 5, _ => rfl
    | 6, _ => rfl
  | 1, _ => match b, hb with
    | 0, _ => rfl
    | 1, _ => rfl
    | 2, _ => rfl
    | 3, _ => rfl
    | 4, _ => rfl
    | 5, _ => rfl
    | 6, _ => rfl
/-- a x + b. -/
def lin (a b : Int) : Nat → Int := fun j => if j = 0 then b else if j = 1 then a else 0
theorem lin_el {q a b : Int} (h : isSz q = true) (ha : El q a) (hb : El q b) (i : Nat) : El q (lin a b i) := by
  unfold lin
  split
  · exact hb
  · split
    · exact ha
    · exact El.zero h
theorem lin_lit (m : Nat) (a b : Int) (w1 : World) : Se (w1.alloc (.cells #[.int .i64 m, .int .i64 (pr m), .int .i64 (pl m), .int .i64 (dg m b 0), .int .i64 (dg m b 1), .int .i64 (dg m b 2), .int .i64 (dg m b 3), .int .i64 m, .int .i64 (pr m), .int .i64 (pl m), .int .i64 (dg m a 0), .int .i64 (dg m a 1), .int .i64 (dg m a 2), .int .i64 (dg m a 3)] 70)) (.slice (some ⟨w1.heap.size, 0, none⟩) 2 2) (m : Int) (lin a b) 2 := by
  refine ⟨w1.heap.size, 2, rfl, by simp, Els.of fun j b hj hb => ?_⟩
  rw [cell_of_row _ _ _ _ _ (0, 0) (heap_alloc_new w1 _)]
  match j, hj with
  | 0, _ => match b, hb with
    | 0, _ => rfl
    | 1, _ => rfl
    | 2, _ => rfl
    | 3, _ => rfl
    | 4, _ => rfl
    | 5, _ => rfl
    | 6, _ => rfl
  | 1, _ => match b, hb with
    | 0, _ => rfl
    | 1, _ => rfl
    | 2, _ => rfl
    | 3, _ => rfl
    | 4, _ => rfl
    | 5, _ => rfl
    | 6, _ => rfl
theorem clm_tabC {m n k l : Nat} {f g e : Nat → Int} (h : isSz (m : Int) = true) (hg : ∀ i, El (m : Int) (g i)) (he : ∀ i, El (m : Int) (e i)) (hv : ∀ x, El (m : Int) x → val m g k x = val m e l x) : clm m (tabC m f n g k) = clm m (tabC m f n e l) := by
  funext i
  unfold clm
  split
  · rename_i hi
    show hor m (tabF m g k i) f n n = hor m (tabF m e l i) f n n
    have : tabF (m : Int) g k i = tabF (m : Int) e l i := by
      show hor m (i : Int) g k k = hor m (i : Int) e l l
      rw [hor_val h (El.nat hi) hg, hor_val h (El.nat hi) he, hv _ (El.nat hi)]
    rw [this]
  · rfl
theorem red_vals {m n : Nat} {x : Int} {c : Nat → Int} (h : isSz (m : Int) = true) (hc : ∀ i, El (m : Int) (c i)) (hx : El (m : Int) x) : val m (redR m c n) (redn m c n) x = val m c n x := by
  rw [← val_red h hc hx n, val_more h (fun i => redR_el m c h hc n i) hx (sn_le _ _) (fun i hi => redR_past h n i hi)]
  rfl
theorem sft_lin (a : Int) : sft a = lin 1 a := rfl
end Go.Proofs.YtapglncgicfjnabGreat
