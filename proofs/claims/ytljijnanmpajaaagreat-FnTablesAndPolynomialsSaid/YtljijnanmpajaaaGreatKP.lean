/- A bundle of texts: IO. -/
import Derived.Deep.RegionHeld3
import Derived.Test.YtljijnanmpajaaaGreatKN
import Derived.Test.YtljijnanmpajaaaGreatKL
import Derived.Test.YtljijnanmpajaaaGreatKA
import Derived.Test.YtljijnanmpajaaaGreatKG
namespace Go.Proofs.YtljijnanmpajaaaGreat
open Go.RowKit
theorem hor_vals {q x : Int} {f : Nat → Int} (h : isSz q = true) (hx : El q x) (hf : ∀ i, El q (f i)) (n k : Nat) (hk : k ≤ n) : hor q x f n k = val q (fun i => f (n - k + i)) k x := by
  induction k with
  | zero => rfl
  | succ k ih =>
    show addF q (mulF q (hor q x f n k) x) (f (n - 1 - k)) = lsum q (fun i => mulF q (f (n - (k + 1) + i)) (pw q x i)) (k + 1)
    have hu : ∀ i, El q (mulF q (f (n - (k + 1) + i)) (pw q x i)) := fun i => (hf _).mul h (El.pw h hx i)
    rw [ih (by omega), lsum_front h fun i _ => hu i]
    have e0 : mulF q (f (n - (k + 1) + 0)) (pw q x 0) = f (n - 1 - k) := by
      show mulF q (f (n - (k + 1) + 0)) 1 = _
      rw [(mul_one' h (hf _)).2]
      congr 1
      omega
    have e1 : lsum q (fun i => mulF q (f (n - (k + 1) + (i + 1))) (pw q x (i + 1))) k = mulF q (val q (fun i => f (n - k + i)) k x) x := by
      unfold val
      rw [← lsum_mulr h hx fun i _ => (hf _).mul h (El.pw h hx i)]
      refine lsum_congr fun i hi => ?_
      show mulF q (f (n - (k + 1) + (i + 1))) (mulF q (pw q x i) x) = _
      rw [← mul_assoc' h (hf _) (El.pw h hx i) hx, show n - (k + 1) + (i + 1) = n - k + i by omega]
    rw [e0, e1, add_comm' h (hf _) ((val_el h (fun i => hf _) hx k).mul h hx)]
theorem hor_val {q x : Int} {f : Nat → Int} (h : isSz q = true) (hx : El q x) (hf : ∀ i, El q (f i)) (n : Nat) : hor q x f n n = val q f n x := by
  rw [hor_vals h hx hf n n (Nat.le_refl _)]
  simp
theorem cmp_hor {m n k : Nat} {x : Int} {f g : Nat → Int} (h : isSz (m : Int) = true) (hf : ∀ i, El m (f i)) (hg : ∀ i, El m (g i)) (hx : El m x) (s : Nat) : val m (cmp m f n g k s).1 m x = hor m (val m g k x) f n s := by
  induction s with
  | zero => exact cmp_val0 h hx
  | succ s ih => rw [cmp_val h hf hg hx, ih]; rfl
/-- The first m values, 0 behind. -/
def clm (m : Nat) (t : Nat → Int) : Nat → Int := fun i => if i < m then t i else 0
theorem clm_el {m : Nat} {t : Nat → Int} (h : isSz (m : Int) = true) (ht : ∀ i, i < m → El m (t i)) (i : Nat) : El m (clm m t i) := by
  unfold clm
  split
  · exact ht i (by assumption)
  · exact El.zero h
theorem Se.like {w : World} {v : Value} {n : Nat} {q : Int} {f f' : Nat → Int} (h : Se w v q f n) (e : ∀ i, i < n → f i = f' i) : Se w v q f' n := by
  obtain ⟨g, cap, rfl, hg, he⟩ := h
  exact ⟨g, cap, rfl, hg, he.congr e⟩
theorem tab_el {m k : Nat} {g : Nat → Int} (h : isSz (m : Int) = true) (hg : ∀ i, El m (g i)) (i : Nat) (hi : i < m) : El m (tabF m g k i) := hor_el h (El.nat hi) (fun j _ => hg j) k (Nat.le_refl _)
/-- The table of a joined polynomial. -/
def tabC (m : Nat) (f : Nat → Int) (n : Nat) (g : Nat → Int) (k : Nat) : Nat → Int := fun a => hor m (tabF m g k a) f n n
theorem tabC_el {m n k : Nat} {f g : Nat → Int} (h : isSz (m : Int) = true) (hf : ∀ i, El m (f i)) (hg : ∀ i, El m (g i)) (i : Nat) (hi : i < m) : El m (tabC m f n g k i) := hor_el h (tab_el h hg i hi) (fun j _ => hf j) n (Nat.le_refl _)
theorem compose_same {m n k : Nat} {f g : Nat → Int} (h : isSz (m : Int) = true) (hf : ∀ i, El m (f i)) (hg : ∀ i, El m (g i)) :
    fl (redR m (tms m (clm m (tabC m f n g k))) m) (redn m (tms m (clm m (tabC m f n g k))) m) = fl (cmp m f n g k n).1 (cmp m f n g k n).2 ∧ redn m (tms m (clm m (tabC m f n g k))) m = (cmp m f n g k n).2 := by
  have ok := cmp_ok (n := n) (k := k) h hf hg n
  refine back_same h ok.el (clm_el h (tabC_el h hf hg)) (fun a ha => ?_) ok.le ok.past ok.tr
  rw [cmp_hor h hf hg (El.nat ha)]
  unfold clm tabC tabF
  rw [if_pos ha, hor_val h (El.nat ha) hg k]
/-- The table of a power. -/
def tabP (m : Nat) (f : Nat → Int) (n K : Nat) : Nat → Int := fun a => pw m (tabF m f n a) K
theorem tabP_el {m n K : Nat} {f : Nat → Int} (h : isSz (m : Int) = true) (hf : ∀ i, El m (f i)) (i : Nat) (hi : i < m) : El m (tabP m f n K i) := El.pw h (tab_el h hf i hi) K
theorem power_same {m n K : Nat} {f : Nat → Int} (h : isSz (m : Int) = true) (hf : ∀ i, El m (f i)) :
    fl (redR m (tms m (clm m (tabP m f n K))) m) (redn m (tms m (clm m (tabP m f n K))) m) = fl (pwr m f n K).1 (pwr m f n K).2 ∧ redn m (tms m (clm m (tabP m f n K))) m = (pwr m f n K).2 := by
  have ok := pwr_ok (n := n) h hf K
  refine back_same h ok.el (clm_el h (tabP_el h hf)) (fun a ha => ?_) ok.le ok.past ok.tr
  rw [pwr_val h hf (El.nat ha)]
  unfold clm tabP tabF
  rw [if_pos ha, hor_val h (El.nat ha) hf n]
/-- The table of a polynomial, at a number of elements that is told as such. -/
theorem tableM (m : Nat) (g n cap : Nat) (f : Nat → Int) (w : World) (h : isSz (m : Int) = true) (hg : g < w.heap.size) (he : Els w g (m : Int) f n) (hf : ∀ i, i < n → El (m : Int) (f i)) (hn : n ≤ 1000) :
    Calls Tryz.prog 85 #[polyE (m : Int) (.slice (some ⟨g, 0, none⟩) n cap)] w fun e w' => ∃ g', e = .returned (.slice (some ⟨g', 0, none⟩) m m) ∧ w.heap.size ≤ g' ∧ Blk w' g' m ∧ Els w' g' (m : Int) (tabF m f n) m ∧ Below w.heap.size w w' := by
  have := tableE (m : Int) g n cap f w h hg he hf hn
  rw [Int.toNat_natCast] at this
  exact this
set_option maxRecDepth 100000 in
set_option maxHeartbeats 8000000 in
/-- impl.poly.compose. -/
theorem composeE (m n k : Nat) (v1 v2 : Value) (f g : Nat → Int) (w : World) (h : isSz (m : Int) = true) (hv1 : Se w v1 (m : Int) f n) (hv2 : Se w v2 (m : Int) g k) (hf : ∀ i, El (m : Int) (f i)) (hg : ∀ i, El (m : Int) (g i)) (hn : n ≤ 50) (hk : k ≤ 50) :
    Calls Tryz.prog 119 #[polyE (m : Int) v1, polyE (m : Int) v2] w fun e w' => ∃ g' cap, e = .returned (polyE (m : Int) (.slice (some ⟨g', 0, none⟩) (redn m (tms m (clm m (tabC m f n g k))) m) cap)) ∧ g' < w'.heap.size ∧ Els w' g' (m : Int) (redR m (tms m (clm m (tabC m f n g k))) m) (redn m (tms m (clm m (tabC m f n g k))) m) ∧ Below w.heap.size w w' := by
  have hq := isSz_le (m : Int) h
  obtain ⟨g1, cap1, rfl, hg1, he1⟩ := hv1
  obtain ⟨g2, cap2, rfl, hg2, he2⟩ := hv2
  have HTB := Lib.hid (fun w' (hb : Below w.heap.size w w') => tableM m g2 k cap2 g w' h (by have := hb.size; omega) (he2.below hb hg2) (fun i _ => hg i) (by omega))
  have HM := Lib.hid (fun v w' (hb : Below w.heap.size w w') (hs : Se w' v (m : Int) (tabF m g k) m) => mapped_at (m : Int) (polyE (m : Int) (.slice (some ⟨g1, 0, none⟩) n cap1)) v (tabF m g k) (tabC m f n g k) m w' hs (by omega)
    (fun i hi w'' hb'' => atE (m : Int) (tabF m g k i) g1 cap1 n f w'' h (tab_el h hg i hi) (by have h1 := hb.size; have h2 := hb''.size; omega) ((he1.below hb hg1).below hb'' (by have h1 := hb.size; omega)) (fun i _ => hf i) (by omega)))
  have HPT := Lib.hid (fun v w' (hs : Se w' v (m : Int) (tabC m f n g k) m) => polyWithTableE m v (clm m (tabC m f n g k)) w' h (hs.like fun i hi => (if_pos hi).symm) (clm_el h (tabC_el h hf hg)))
  clear hf hg h he1 he2
  generalize redn m (tms m (clm m (tabC m f n g k))) m = K at *
  generalize redR m (tms m (clm m (tabC m f n g k))) m = R at *
  generalize tabC m f n g k = TC at *
  generalize tabF (m : Int) g k = T at *
  go_enter Tryz.func119, Tryz.ntmps119
  go_wp2_with fail
  have HT3 := Lib.hid (three w (pblk (m : Int) (.slice (some ⟨g1, 0, none⟩) n cap1)) (pblk (m : Int) (.slice (some ⟨g2, 0, none⟩) k cap2)) pzblk).2.2
  have HKEEP : Hid (∀ w', Below (w.heap.size + 2) ((w.alloc (pblk (m : Int) (.slice (some ⟨g1, 0, none⟩) n cap1))).alloc (pblk (m : Int) (.slice (some ⟨g2, 0, none⟩) k cap2))) w' → w'.cell? ⟨w.heap.size, 0, none⟩ = some (.int .i64 m) ∧ w'.cell? ⟨w.heap.size, 1, none⟩ = some (.int .i64 (pr m)) ∧ w'.cell? ⟨w.heap.size, 2, none⟩ = some (.int .i64 (pl m)) ∧ w'.cell? ⟨w.heap.size, 3, none⟩ = some (.slice (some ⟨g1, 0, none⟩) n cap1) ∧ w'.cell? ⟨w.heap.size + 1, 0, none⟩ = some (.int .i64 m) ∧ w'.cell? ⟨w.heap.size + 1, 1, none⟩ = some (.int .i64 (pr m)) ∧ w'.cell? ⟨w.heap.size + 1, 2, none⟩ = some (.int .i64 (pl m)) ∧ w'.cell? ⟨w.heap.size + 1, 3, none⟩ = some (.slice (some ⟨g2, 0, none⟩) k cap2)) := Lib.hid fun w' hb => by
    obtain ⟨t0, t1⟩ := two w (pblk (m : Int) (.slice (some ⟨g1, 0, none⟩) n cap1)) (pblk (m : Int) (.slice (some ⟨g2, 0, none⟩) k cap2))
    obtain ⟨x0, x1, x2, x3, _⟩ := cells4 ((hb.block _ (by omega)).trans t0)
    obtain ⟨y0, y1, y2, y3, _⟩ := cells4 ((hb.block _ (by omega)).trans t1)
    exact ⟨x0, x1, x2, x3, y0, y1, y2, y3⟩
  go_region_held3 (fun w' => w'.cell? ⟨w.heap.size, 0, none⟩ = some (.int .i64 m) ∧ w'.cell? ⟨w.heap.size, 1, none⟩ = some (.int .i64 (pr m)) ∧ w'.cell? ⟨w.heap.size, 2, none⟩ = some (.int .i64 (pl m)) ∧ w'.cell? ⟨w.heap.size, 3, none⟩ = some (.slice (some ⟨g1, 0, none⟩) n cap1) ∧ w'.cell? ⟨w.heap.size + 1, 0, none⟩ = some (.int .i64 m) ∧ w'.cell? ⟨w.heap.size + 1, 1, none⟩ = some (.int .i64 (pr m)) ∧ w'.cell? ⟨w.heap.size + 1, 2, none⟩ = some (.int .i64 (pl m)) ∧ w'.cell? ⟨w.heap.size + 1, 3, none⟩ = some (.slice (some ⟨g2, 0, none⟩) k cap2))
    (exact HKEEP.out _ (by (try have hb3 := HB3.out); (try have hb4 := HB4.out); (try have hb5 := HB5.out); (repeat' (first | (with_reducible assumption) | (with_reducible exact Below.refl _ _) | (with_reducible refine below_drewN ?_ _) | (with_reducible refine Below.drew ?_) | (with_reducible refine Below.alloc ?_ ?_ _) | (with_reducible refine Below.setCell ?_ ?_ _) | (with_reducible refine Below.trans ?_ (Below.mono (by assumption) ?_)) | (with_reducible exact Nat.le_refl _) | (with_reducible assumption) | omega | (simp; omega) | (simp; done)))))
    (first
    | (go_at_call 85; refine (HTB.out _ (by (repeat' (first | (with_reducible assumption) | (with_reducible exact Below.refl _ _) | (with_reducible refine below_drewN ?_ _) | (with_reducible refine Below.drew ?_) | (with_reducible refine Below.alloc ?_ ?_ _) | (with_reducible refine Below.setCell ?_ ?_ _) | (with_reducible refine Below.trans ?_ (Below.mono (by assumption) ?_)) | (with_reducible exact Nat.le_refl _) | (with_reducible assumption) | omega | (simp; omega) | (simp; done))))).mono ?_; rintro e w3 ⟨g3, rfl, hg3, hk3, he3, hb3⟩; have HSE3 : Hid (Se w3 (.slice (some ⟨g3, 0, none⟩) m m) (m : Int) T m) := Lib.hid ⟨g3, _, rfl, hk3.lt, he3⟩; clear hk3 he3; obtain ⟨hc3, hf3⟩ := bcell hb3; (try simp only [World.size_drew] at hc3 hf3); have hz3 := hb3.size; (try simp at hz3); have HB3 := Lib.hid hb3; clear hb3; have l3 : w.heap.size + 2 < w3.heap.size := (by omega))
    | (go_at_call 164; refine (HM.out _ _ (by have hb3 := HB3.out; (repeat' (first | (with_reducible assumption) | (with_reducible exact Below.refl _ _) | (with_reducible refine below_drewN ?_ _) | (with_reducible refine Below.drew ?_) | (with_reducible refine Below.alloc ?_ ?_ _) | (with_reducible refine Below.setCell ?_ ?_ _) | (with_reducible refine Below.trans ?_ (Below.mono (by assumption) ?_)) | (with_reducible exact Nat.le_refl _) | (with_reducible assumption) | omega | (simp; omega) | (simp; done)))) HSE3.out).mono ?_; rintro e w4 ⟨g4, rfl, hg4, hk4, he4, hb4⟩; have HSE4 : Hid (Se w4 (.slice (some ⟨g4, 0, none⟩) m m) (m : Int) TC m) := Lib.hid ⟨g4, _, rfl, hk4.lt, he4⟩; clear hk4 he4; obtain ⟨hc4, hf4⟩ := bcell hb4; (try simp only [World.size_drew] at hc4 hf4); have hz4 := hb4.size; (try simp at hz4); have HB4 := Lib.hid hb4; clear hb4; have l4 : w.heap.size + 2 < w4.heap.size := (by omega))
    | (go_at_call 92; refine (HPT.out _ _ HSE4.out).mono ?_; rintro e w5 ⟨g5, cp5, rfl, hg5, he5, hb5⟩; have HE5 := Lib.hid he5; clear he5; obtain ⟨hc5, hf5⟩ := bcell hb5; (try simp only [World.size_drew] at hc5 hf5); have hz5 := hb5.size; (try simp at hz5); have HB5 := Lib.hid hb5; clear hb5; have l5 : w.heap.size + 2 < w5.heap.size := (by omega)))
  all_goals
    go_wp2_with fail
    have hb3 := HB3.out
    have hb4 := HB4.out
    have hb5 := HB5.out
    have hr : w5.heap[w.heap.size + 2]? = some pzblk := (Below.block (B := w.heap.size + 3) (w := ((w.alloc (pblk (m : Int) (.slice (some ⟨g1, 0, none⟩) n cap1))).alloc (pblk (m : Int) (.slice (some ⟨g2, 0, none⟩) k cap2))).alloc pzblk) (by (repeat' (first | (with_reducible assumption) | (with_reducible exact Below.refl _ _) | (with_reducible refine below_drewN ?_ _) | (with_reducible refine Below.drew ?_) | (with_reducible refine Below.alloc ?_ ?_ _) | (with_reducible refine Below.setCell ?_ ?_ _) | (with_reducible refine Below.trans ?_ (Below.mono (by assumption) ?_)) | (with_reducible exact Nat.le_refl _) | (with_reducible assumption) | omega | (simp; omega) | (simp; done)))) (w.heap.size + 2) (by omega)).trans HT3.out
    obtain ⟨r0, r1, r2, r3, rf, rl0⟩ := cells4 hr
    refine bodyPost_ret (v := polyE (m : Int) (.slice (some ⟨g5, 0, none⟩) K cp5)) (by simp [results, Tryz.results119, go_sem, r0, r1, r2, r3]) rfl ⟨g5, cp5, rfl, by simp; omega, ?_, ?_⟩
    · exact HE5.out.over hr (by omega) (fun k hk => by (repeat' (first | (with_reducible rfl) | (with_reducible refine (heap_setCell_other _ _ _ _ ?_).trans ?_) | (with_reducible refine (drew_heap' _ _).trans ?_) | exact hk)))
    · (repeat' (first | (with_reducible assumption) | (with_reducible exact Below.refl _ _) | (with_reducible refine below_drewN ?_ _) | (with_reducible refine Below.drew ?_) | (with_reducible refine Below.alloc ?_ ?_ _) | (with_reducible refine Below.setCell ?_ ?_ _) | (with_reducible refine Below.trans ?_ (Below.mono (by assumption) ?_)) | (with_reducible exact Nat.le_refl _) | (with_reducible assumption) | omega | (simp; omega) | (simp; done)))
/-- x + a. -/
def sft (a : Int) : Nat → Int := fun j => if j = 0 then a else if j = 1 then 1 else 0
theorem sft_el {q a : Int} (h : isSz q = true) (ha : El q a) (i : Nat) : El q (sft a i) := by
  unfold sft
  split
  · exact ha
  · split
    · exact El.one h
    · exact El.zero h
theorem sft_lit (m : Nat) (a : Int) (w1 : World) : Se (w1.alloc (.cells #[.int .i64 m, .int .i64 (pr m), .int .i64 (pl m), .int .i64 (dg m a 0), .int .i64 (dg m a 1), .int .i64 (dg m a 2), .int .i64 (dg m a 3), .int .i64 m, .int .i64 (pr m), .int .i64 (pl m), .int .i64 (dg m 1 0), .int .i64 (dg m 1 1), .int .i64 (dg m 1 2), .int .i64 (dg m 1 3)] 67)) (.slice (some ⟨w1.heap.size, 0, none⟩) 2 2) (m : Int) (sft a) 2 := by
  refine ⟨w1.heap.size, 2, rfl, by simp, Els.of fun j b hj hb => ?_⟩
  rw [cell_of_row _ _ _ _ _ (0, 0) (heap_alloc_new w1 _)]
  match j, hj with
  | 0, _ => match b, hb with
    | 0, _ => rfl
    | 1, _ => rfl
    | 2, _ => rfl
    | 3, _ => rfl
    | 4, _ => rfl
    | 5, _ => rfl
    | 6, _ => rfl
  | 1, _ => match b, hb with
    | 0, _ => rfl
    | 1, _ => rfl
    | 2, _ => rfl
    | 3, _ => rfl
    | 4, _ => rfl
    | 5, _ => rfl
    | 6, _ => rfl
/-- a x + b. -/
def lin (a b : Int) : Nat → Int := fun j => if j = 0 then b else if j = 1 then a else 0
theorem lin_el {q a b : Int} (h : isSz q = true) (ha : El q a) (hb : El q b) (i : Nat) : El q (lin a b i) := by
  unfold lin
  split
  · exact hb
  · split
    · exact ha
    · exact El.zero h
theorem lin_lit (m : Nat) (a b : Int) (w1 : World) : Se (w1.alloc (.cells #[.int .i64 m, .int .i64 (pr m), .int .i64 (pl m), .int .i64 (dg m b 0), .int .i64 (dg m b 1), .int .i64 (dg m b 2), .int .i64 (dg m b 3), .int .i64 m, .int .i64 (pr m), .int .i64 (pl m), .int .i64 (dg m a 0), .int .i64 (dg m a 1), .int .i64 (dg m a 2), .int .i64 (dg m a 3)] 67)) (.slice (some ⟨w1.heap.size, 0, none⟩) 2 2) (m : Int) (lin a b) 2 := by
  refine ⟨w1.heap.size, 2, rfl, by simp, Els.of fun j b hj hb => ?_⟩
  rw [cell_of_row _ _ _ _ _ (0, 0) (heap_alloc_new w1 _)]
  match j, hj with
  | 0, _ => match b, hb with
    | 0, _ => rfl
    | 1, _ => rfl
    | 2, _ => rfl
    | 3, _ => rfl
    | 4, _ => rfl
    | 5, _ => rfl
    | 6, _ => rfl
  | 1, _ => match b, hb with
    | 0, _ => rfl
    | 1, _ => rfl
    | 2, _ => rfl
    | 3, _ => rfl
    | 4, _ => rfl
    | 5, _ => rfl
    | 6, _ => rfl
set_option maxRecDepth 100000 in
set_option maxHeartbeats 8000000 in
/-- impl.field.linear. -/
theorem linearE (m : Nat) (a b : Int) (w : World) (h : isSz (m : Int) = true) (ha : El (m : Int) a) (hb : El (m : Int) b) :
    Calls Tryz.prog 185 #[fdE (m : Int), elE (m : Int) a, elE (m : Int) b] w fun e w' => ∃ g' cap, e = .returned (polyE (m : Int) (.slice (some ⟨g', 0, none⟩) (redn m (lin a b) 2) cap)) ∧ g' < w'.heap.size ∧ Els w' g' (m : Int) (redR m (lin a b) 2) (redn m (lin a b) 2) ∧ Below w.heap.size w w' := by
  have hq := isSz_le (m : Int) h
  have HRD := Lib.hid (fun v' w' (hs : Se w' v' (m : Int) (lin a b) 2) => reducedE m v' (lin a b) 2 w' h hs (lin_el h ha hb) (by omega))
  have HLIT := Lib.hid (lin_lit m a b)
  clear h ha hb
  generalize redn m (lin a b) 2 = K at *
  generalize redR m (lin a b) 2 = R at *
  generalize lin a b = g at *
  go_enter Tryz.func185, Tryz.ntmps185
  have HT : Hid (((((w.alloc (ffblk (m : Int))).alloc (eblk (m : Int) a)).alloc (eblk (m : Int) b)).alloc pzblk).heap[w.heap.size + 1 + 1 + 1]? = some pzblk) := Lib.hid (by
    have := heap_alloc_new (((w.alloc (ffblk (m : Int))).alloc (eblk (m : Int) a)).alloc (eblk (m : Int) b)) pzblk
    simpa using this)
  have HLW : Hid (Se (((((w.alloc (ffblk (m : Int))).alloc (eblk (m : Int) a)).alloc (eblk (m : Int) b)).alloc pzblk).alloc (.cells #[.int .i64 m, .int .i64 (pr m), .int .i64 (pl m), .int .i64 (dg m b 0), .int .i64 (dg m b 1), .int .i64 (dg m b 2), .int .i64 (dg m b 3), .int .i64 m, .int .i64 (pr m), .int .i64 (pl m), .int .i64 (dg m a 0), .int .i64 (dg m a 1), .int .i64 (dg m a 2), .int .i64 (dg m a 3)] 67)) (.slice (some ⟨w.heap.size + 1 + 1 + 1 + 1, 0, none⟩) 2 2) (m : Int) g 2) := Lib.hid (by
    rw [show w.heap.size + 1 + 1 + 1 + 1 = ((((w.alloc (ffblk (m : Int))).alloc (eblk (m : Int) a)).alloc (eblk (m : Int) b)).alloc pzblk).heap.size by simp]
    exact HLIT.out _)
  go_wp2_with fail
  refine (HRD.out _ _ HLW.out).mono ?_
  rintro e w1 ⟨g1, cap1, rfl, hg1, he1, hb1⟩
  have hr1 : w1.heap[w.heap.size + 1 + 1 + 1]? = some pzblk := (hb1.block _ (by simp)).trans ((Below.heap_alloc _ _ _ (by simp)).trans HT.out)
  have hz1 := hb1.size
  simp at hz1
  have HE1 := Lib.hid he1
  have HB1 := Lib.hid hb1
  clear he1 hb1
  obtain ⟨r0, r1, r2, r3, rf, rl0⟩ := cells4 hr1
  go_wp2_with fail
  refine bodyPost_ret (v := polyE (m : Int) (.slice (some ⟨g1, 0, none⟩) K cap1)) (by simp [results, Tryz.results185, go_sem, r0, r1, r2, r3]) rfl ⟨g1, cap1, rfl, by simp; omega, ?_, ?_⟩
  · exact HE1.out.over hr1 (by omega) (fun k hk => put4_other _ _ _ _ _ hk)
  · have hb1 := HB1.out
    (repeat' (first | (with_reducible assumption) | (with_reducible exact Below.refl _ _) | (with_reducible refine below_drewN ?_ _) | (with_reducible refine Below.drew ?_) | (with_reducible refine Below.alloc ?_ ?_ _) | (with_reducible refine Below.setCell ?_ ?_ _) | (with_reducible refine Below.trans ?_ (Below.mono (by assumption) ?_)) | (with_reducible exact Nat.le_refl _) | (with_reducible assumption) | omega | (simp; omega) | (simp; done)))
theorem clm_tabC {m n k l : Nat} {f g e : Nat → Int} (h : isSz (m : Int) = true) (hg : ∀ i, El (m : Int) (g i)) (he : ∀ i, El (m : Int) (e i)) (hv : ∀ x, El (m : Int) x → val m g k x = val m e l x) : clm m (tabC m f n g k) = clm m (tabC m f n e l) := by
  funext i
  unfold clm
  split
  · rename_i hi
    show hor m (tabF m g k i) f n n = hor m (tabF m e l i) f n n
    have : tabF (m : Int) g k i = tabF (m : Int) e l i := by
      show hor m (i : Int) g k k = hor m (i : Int) e l l
      rw [hor_val h (El.nat hi) hg, hor_val h (El.nat hi) he, hv _ (El.nat hi)]
    rw [this]
  · rfl
theorem red_vals {m n : Nat} {x : Int} {c : Nat → Int} (h : isSz (m : Int) = true) (hc : ∀ i, El (m : Int) (c i)) (hx : El (m : Int) x) : val m (redR m c n) (redn m c n) x = val m c n x := by
  rw [← val_red h hc hx n, val_more h (fun i => redR_el m c h hc n i) hx (sn_le _ _) (fun i hi => redR_past h n i hi)]
  rfl
theorem sft_lin (a : Int) : sft a = lin 1 a := rfl
set_option maxRecDepth 100000 in
set_option maxHeartbeats 8000000 in
/-- impl.poly.shifted. -/
theorem shiftedE (m n : Nat) (a : Int) (v1 : Value) (f : Nat → Int) (w : World) (h : isSz (m : Int) = true) (hv1 : Se w v1 (m : Int) f n) (hf : ∀ i, El (m : Int) (f i)) (ha : El (m : Int) a) (hn : n ≤ 50) :
    Calls Tryz.prog 125 #[polyE (m : Int) v1, elE (m : Int) a] w fun e w' => ∃ g' cap, e = .returned (polyE (m : Int) (.slice (some ⟨g', 0, none⟩) (redn m (tms m (clm m (tabC m f n (sft a) 2))) m) cap)) ∧ g' < w'.heap.size ∧ Els w' g' (m : Int) (redR m (tms m (clm m (tabC m f n (sft a) 2))) m) (redn m (tms m (clm m (tabC m f n (sft a) 2))) m) ∧ Below w.heap.size w w' := by
  have hq := isSz_le (m : Int) h
  have HO := Lib.hid (fun w => oneE (m : Int) w h)
  have HC := Lib.hid (fun v2 w' (hb : Below w.heap.size w w') (hs : Se w' v2 (m : Int) (redR m (lin 1 a) 2) (redn m (lin 1 a) 2)) => by
    have := composeE m n _ v1 v2 f _ w' h (hv1.below hb (Nat.le_refl _)) hs hf (fun i => redR_el m (lin 1 a) h (lin_el h (El.one h) ha) 2 i) hn (by have := sn_le (redR m (lin 1 a) 2) m; unfold redn; omega)
    rw [clm_tabC (e := sft a) (l := 2) h (fun i => redR_el m (lin 1 a) h (lin_el h (El.one h) ha) 2 i) (sft_el h ha) (fun x hx => (red_vals h (lin_el h (El.one h) ha) hx).trans (by rw [sft_lin]))] at this
    exact this)
  have HLI := Lib.hid (fun w => linearE m 1 a w h (El.one h) ha)
  obtain ⟨g1, cap1, rfl, hg1, he1⟩ := hv1
  clear hf ha h he1
  generalize redn m (tms m (clm m (tabC m f n (sft a) 2))) m = K at *
  generalize redR m (tms m (clm m (tabC m f n (sft a) 2))) m = R at *
  generalize redn m (lin 1 a) 2 = KL at *
  generalize redR m (lin 1 a) 2 = RL at *
  go_enter Tryz.func125, Tryz.ntmps125
  go_wp2_with fail
  have HT3 := Lib.hid (three w (pblk (m : Int) (.slice (some ⟨g1, 0, none⟩) n cap1)) (eblk (m : Int) a) pzblk).2.2
  have HKEEP : Hid (∀ w', Below (w.heap.size + 2) ((w.alloc (pblk (m : Int) (.slice (some ⟨g1, 0, none⟩) n cap1))).alloc (eblk (m : Int) a)) w' → w'.cell? ⟨w.heap.size, 0, none⟩ = some (.int .i64 m) ∧ w'.cell? ⟨w.heap.size, 1, none⟩ = some (.int .i64 (pr m)) ∧ w'.cell? ⟨w.heap.size, 2, none⟩ = some (.int .i64 (pl m)) ∧ w'.cell? ⟨w.heap.size, 3, none⟩ = some (.slice (some ⟨g1, 0, none⟩) n cap1) ∧ w'.cell? ⟨w.heap.size + 1, 0, none⟩ = some (.int .i64 m) ∧ w'.cell? ⟨w.heap.size + 1, 1, none⟩ = some (.int .i64 (pr m)) ∧ w'.cell? ⟨w.heap.size + 1, 2, none⟩ = some (.int .i64 (pl m)) ∧ w'.cell? ⟨w.heap.size + 1, 3, none⟩ = some (.int .i64 (dg m a 0)) ∧ w'.cell? ⟨w.heap.size + 1, 4, none⟩ = some (.int .i64 (dg m a 1)) ∧ w'.cell? ⟨w.heap.size + 1, 5, none⟩ = some (.int .i64 (dg m a 2)) ∧ w'.cell? ⟨w.heap.size + 1, 6, none⟩ = some (.int .i64 (dg m a 3))) := Lib.hid fun w' hb => by
    obtain ⟨t0, t1⟩ := two w (pblk (m : Int) (.slice (some ⟨g1, 0, none⟩) n cap1)) (eblk (m : Int) a)
    obtain ⟨x0, x1, x2, x3, _⟩ := cells4 ((hb.block _ (by omega)).trans t0)
    obtain ⟨y0, y1, y2, y3, y4, y5, y6, _⟩ := seven ((hb.block _ (by omega)).trans t1)
    exact ⟨x0, x1, x2, x3, y0, y1, y2, y3, y4, y5, y6⟩
  go_region_held3 (fun w' => w'.cell? ⟨w.heap.size, 0, none⟩ = some (.int .i64 m) ∧ w'.cell? ⟨w.heap.size, 1, none⟩ = some (.int .i64 (pr m)) ∧ w'.cell? ⟨w.heap.size, 2, none⟩ = some (.int .i64 (pl m)) ∧ w'.cell? ⟨w.heap.size, 3, none⟩ = some (.slice (some ⟨g1, 0, none⟩) n cap1) ∧ w'.cell? ⟨w.heap.size + 1, 0, none⟩ = some (.int .i64 m) ∧ w'.cell? ⟨w.heap.size + 1, 1, none⟩ = some (.int .i64 (pr m)) ∧ w'.cell? ⟨w.heap.size + 1, 2, none⟩ = some (.int .i64 (pl m)) ∧ w'.cell? ⟨w.heap.size + 1, 3, none⟩ = some (.int .i64 (dg m a 0)) ∧ w'.cell? ⟨w.heap.size + 1, 4, none⟩ = some (.int .i64 (dg m a 1)) ∧ w'.cell? ⟨w.heap.size + 1, 5, none⟩ = some (.int .i64 (dg m a 2)) ∧ w'.cell? ⟨w.heap.size + 1, 6, none⟩ = some (.int .i64 (dg m a 3)))
    (exact HKEEP.out _ (by (try have hb3 := HB3.out); (try have hb4 := HB4.out); (try have hb5 := HB5.out); (repeat' (first | (with_reducible assumption) | (with_reducible exact Below.refl _ _) | (with_reducible refine below_drewN ?_ _) | (with_reducible refine Below.drew ?_) | (with_reducible refine Below.alloc ?_ ?_ _) | (with_reducible refine Below.setCell ?_ ?_ _) | (with_reducible refine Below.trans ?_ (Below.mono (by assumption) ?_)) | (with_reducible exact Nat.le_refl _) | (with_reducible assumption) | omega | (simp; omega) | (simp; done)))))
    (first
    | (go_at_call 186; refine (HO.out _).mono ?_; rintro e w3 ⟨rfl, hb3⟩; obtain ⟨hc3, hf3⟩ := bcell hb3; (try simp only [World.size_drew] at hc3 hf3); have hz3 := hb3.size; (try simp at hz3); have HB3 := Lib.hid hb3; clear hb3; have l3 : w.heap.size + 2 < w3.heap.size := (by omega); have l3' : w.heap.size + 2 < w3.heap.size + 1 := (by omega))
    | (go_at_call 185; refine (HLI.out _).mono ?_; rintro e w4 ⟨g4, cp4, rfl, hg4, he4, hb4⟩; have HE4 := Lib.hid he4; clear he4; obtain ⟨hc4, hf4⟩ := bcell hb4; (try simp only [World.size_drew] at hc4 hf4); have hz4 := hb4.size; (try simp at hz4); have HB4 := Lib.hid hb4; clear hb4; have l4 : w.heap.size + 2 < w4.heap.size := (by omega))
    | (go_at_call 119; refine (HC.out _ _ (by have hb3 := HB3.out; have hb4 := HB4.out; (repeat' (first | (with_reducible assumption) | (with_reducible exact Below.refl _ _) | (with_reducible refine below_drewN ?_ _) | (with_reducible refine Below.drew ?_) | (with_reducible refine Below.alloc ?_ ?_ _) | (with_reducible refine Below.setCell ?_ ?_ _) | (with_reducible refine Below.trans ?_ (Below.mono (by assumption) ?_)) | (with_reducible exact Nat.le_refl _) | (with_reducible assumption) | omega | (simp; omega) | (simp; done)))) ⟨g4, cp4, rfl, by first | omega | (simp; omega), HE4.out⟩).mono ?_; rintro e w5 ⟨g5, cp5, rfl, hg5, he5, hb5⟩; have HE5 := Lib.hid he5; clear he5; obtain ⟨hc5, hf5⟩ := bcell hb5; (try simp only [World.size_drew] at hc5 hf5); have hz5 := hb5.size; (try simp at hz5); have HB5 := Lib.hid hb5; clear hb5; have l5 : w.heap.size + 2 < w5.heap.size := (by omega)))
  all_goals
    go_wp2_with fail
    have hb3 := HB3.out
    have hb4 := HB4.out
    have hb5 := HB5.out
    have hr : w5.heap[w.heap.size + 2]? = some pzblk := (Below.block (B := w.heap.size + 3) (w := ((w.alloc (pblk (m : Int) (.slice (some ⟨g1, 0, none⟩) n cap1))).alloc (eblk (m : Int) a)).alloc pzblk) (by (repeat' (first | (with_reducible assumption) | (with_reducible exact Below.refl _ _) | (with_reducible refine below_drewN ?_ _) | (with_reducible refine Below.drew ?_) | (with_reducible refine Below.alloc ?_ ?_ _) | (with_reducible refine Below.setCell ?_ ?_ _) | (with_reducible refine Below.trans ?_ (Below.mono (by assumption) ?_)) | (with_reducible exact Nat.le_refl _) | (with_reducible assumption) | omega | (simp; omega) | (simp; done)))) (w.heap.size + 2) (by omega)).trans HT3.out
    obtain ⟨r0, r1, r2, r3, rf, rl0⟩ := cells4 hr
    refine bodyPost_ret (v := polyE (m : Int) (.slice (some ⟨g5, 0, none⟩) K cp5)) (by simp [results, Tryz.results125, go_sem, r0, r1, r2, r3]) rfl ⟨g5, cp5, rfl, by simp; omega, ?_, ?_⟩
    · exact HE5.out.over hr (by omega) (fun k hk => by (repeat' (first | (with_reducible rfl) | (with_reducible refine (heap_setCell_other _ _ _ _ ?_).trans ?_) | (with_reducible refine (drew_heap' _ _).trans ?_) | exact hk)))
    · (repeat' (first | (with_reducible assumption) | (with_reducible exact Below.refl _ _) | (with_reducible refine below_drewN ?_ _) | (with_reducible refine Below.drew ?_) | (with_reducible refine Below.alloc ?_ ?_ _) | (with_reducible refine Below.setCell ?_ ?_ _) | (with_reducible refine Below.trans ?_ (Below.mono (by assumption) ?_)) | (with_reducible exact Nat.le_refl _) | (with_reducible assumption) | omega | (simp; omega) | (simp; done)))
set_option maxHeartbeats 2000000 in
/-- The closure of impl.poly.power. -/
theorem powClo (q x : Int) (K KB : Nat) (w : World) (h : isSz q = true) (hx : El q x) (hK : K ≤ 1000) (hc : w.cell? ⟨KB, 0, none⟩ = some (.int .i64 K)) :
    Calls Tryz.prog 188 #[elE q x, .pointer (some ⟨KB, 0, none⟩)] w fun e w' => e = .returned (elE q (pw q x K)) ∧ Below w.heap.size w w' := by
  have HP := Lib.hid (fun w => by have := powerE q x (K : Int) w h hx.1 hx.2 (by omega) (by omega); rw [Int.toNat_natCast] at this; exact this)
  have l0 := World.block_lt_of_cell? w _ hc
  simp only at l0
  clear h hx
  generalize pw q x K = y at *
  go_enter Tryz.func188, Tryz.ntmps188
  go_wp2_with fail
  refine (HP.out _).mono ?_
  rintro e w1 ⟨rfl, hb1⟩
  obtain ⟨hc1, hf1⟩ := bcell hb1; have hz1 := hb1.size; (try simp at hz1); have HB1 := Lib.hid hb1; clear hb1
  have l1 : w.heap.size + 1 < w1.heap.size := by omega
  go_wp2_with fail
  have hb1 := HB1.out
  have hr : w1.heap[w.heap.size + 1]? = some zeroblk := (hb1.block _ (by simp)).trans (two w (eblk q x) zeroblk).2
  obtain ⟨s0, s1, s2, s3, s4, s5, s6, sf, sl⟩ := seven hr
  refine bodyPost_ret (v := elE q y) (by simp [results, Tryz.results188, go_sem, s0, s1, s2, s3, s4, s5, s6]) rfl ⟨rfl, ?_⟩
  (repeat' (first | (with_reducible assumption) | (with_reducible exact Below.refl _ _) | (with_reducible refine below_drewN ?_ _) | (with_reducible refine Below.drew ?_) | (with_reducible refine Below.alloc ?_ ?_ _) | (with_reducible refine Below.setCell ?_ ?_ _) | (with_reducible refine Below.trans ?_ (Below.mono (by assumption) ?_)) | (with_reducible exact Nat.le_refl _) | (with_reducible assumption) | omega | (simp; omega) | (simp; done)))
set_option maxHeartbeats 2000000 in
/-- The closure of impl.mapped over elements, at that closure. -/
theorem clo_pow (q x y : Int) (KB i n g cap A0 A1 : Nat) (w : World) (hin : i < n)
    (HX : ∀ w', Below w.heap.size w w' → Calls Tryz.prog 188 #[elE q x, .pointer (some ⟨KB, 0, none⟩)] w' fun e w'' => e = .returned (elE q y) ∧ Below w'.heap.size w' w'')
    (hc : w.cell? ⟨A0, 0, none⟩ = some (.func (.func 188) #[] #[.pointer (some ⟨KB, 0, none⟩)]) ∧ w.cell? ⟨A1, 0, none⟩ = some (.slice (some ⟨g, 0, none⟩) n cap) ∧ w.cell? ⟨g, i * 7, none⟩ = some (.int .i64 q) ∧ w.cell? ⟨g, i * 7 + 1, none⟩ = some (.int .i64 (pr q)) ∧ w.cell? ⟨g, i * 7 + 2, none⟩ = some (.int .i64 (pl q)) ∧ w.cell? ⟨g, i * 7 + 3, none⟩ = some (.int .i64 (dg q x 0)) ∧ w.cell? ⟨g, i * 7 + 4, none⟩ = some (.int .i64 (dg q x 1)) ∧ w.cell? ⟨g, i * 7 + 5, none⟩ = some (.int .i64 (dg q x 2)) ∧ w.cell? ⟨g, i * 7 + 6, none⟩ = some (.int .i64 (dg q x 3))) :
    Calls Tryz.prog 201 #[.int .i64 i, .pointer (some ⟨A0, 0, none⟩), .pointer (some ⟨A1, 0, none⟩)] w fun e w' => e = .returned (elE q y) ∧ Below w.heap.size w w' := by
  have HXX := Lib.hid HX; clear HX
  obtain ⟨c0, c1, e0, e1, e2, e3, e4, e5, e6⟩ := hc
  have l0 := World.block_lt_of_cell? w _ c0
  have l1 := World.block_lt_of_cell? w _ c1
  have l2 := World.block_lt_of_cell? w _ e0
  simp only at l0 l1 l2
  have HKEEP : Hid (∀ w', Below w.heap.size w w' → w'.cell? ⟨A0, 0, none⟩ = some (.func (.func 188) #[] #[.pointer (some ⟨KB, 0, none⟩)]) ∧ w'.cell? ⟨A1, 0, none⟩ = some (.slice (some ⟨g, 0, none⟩) n cap) ∧ w'.cell? ⟨g, i * 7, none⟩ = some (.int .i64 q) ∧ w'.cell? ⟨g, i * 7 + 1, none⟩ = some (.int .i64 (pr q)) ∧ w'.cell? ⟨g, i * 7 + 2, none⟩ = some (.int .i64 (pl q)) ∧ w'.cell? ⟨g, i * 7 + 3, none⟩ = some (.int .i64 (dg q x 0)) ∧ w'.cell? ⟨g, i * 7 + 4, none⟩ = some (.int .i64 (dg q x 1)) ∧ w'.cell? ⟨g, i * 7 + 5, none⟩ = some (.int .i64 (dg q x 2)) ∧ w'.cell? ⟨g, i * 7 + 6, none⟩ = some (.int .i64 (dg q x 3))) := Lib.hid fun w' hb => by
    exact ⟨(hb.cell (p := ⟨A0, 0, none⟩) l0).trans c0, (hb.cell (p := ⟨A1, 0, none⟩) l1).trans c1, (hb.cell (p := ⟨g, i * 7, none⟩) l2).trans e0, (hb.cell (p := ⟨g, i * 7 + 1, none⟩) l2).trans e1, (hb.cell (p := ⟨g, i * 7 + 2, none⟩) l2).trans e2, (hb.cell (p := ⟨g, i * 7 + 3, none⟩) l2).trans e3, (hb.cell (p := ⟨g, i * 7 + 4, none⟩) l2).trans e4, (hb.cell (p := ⟨g, i * 7 + 5, none⟩) l2).trans e5, (hb.cell (p := ⟨g, i * 7 + 6, none⟩) l2).trans e6⟩
  go_enter Tryz.func201, Tryz.ntmps201
  go_wp2_with fail
  go_region_held3 (fun w' => w'.cell? ⟨A0, 0, none⟩ = some (.func (.func 188) #[] #[.pointer (some ⟨KB, 0, none⟩)]) ∧ w'.cell? ⟨A1, 0, none⟩ = some (.slice (some ⟨g, 0, none⟩) n cap) ∧ w'.cell? ⟨g, i * 7, none⟩ = some (.int .i64 q) ∧ w'.cell? ⟨g, i * 7 + 1, none⟩ = some (.int .i64 (pr q)) ∧ w'.cell? ⟨g, i * 7 + 2, none⟩ = some (.int .i64 (pl q)) ∧ w'.cell? ⟨g, i * 7 + 3, none⟩ = some (.int .i64 (dg q x 0)) ∧ w'.cell? ⟨g, i * 7 + 4, none⟩ = some (.int .i64 (dg q x 1)) ∧ w'.cell? ⟨g, i * 7 + 5, none⟩ = some (.int .i64 (dg q x 2)) ∧ w'.cell? ⟨g, i * 7 + 6, none⟩ = some (.int .i64 (dg q x 3)))
    (exact HKEEP.out _ (by (try have hb1 := HB1.out); (repeat' (first | (with_reducible assumption) | (with_reducible exact Below.refl _ _) | (with_reducible refine below_drewN ?_ _) | (with_reducible refine Below.drew ?_) | (with_reducible refine Below.alloc ?_ ?_ _) | (with_reducible refine Below.setCell ?_ ?_ _) | (with_reducible refine Below.trans ?_ (Below.mono (by assumption) ?_)) | (with_reducible exact Nat.le_refl _) | (with_reducible assumption) | omega | (simp; omega) | (simp; done)))))
    (first | (go_at_call 188; refine (HXX.out _ (by (repeat' (first | (with_reducible assumption) | (with_reducible exact Below.refl _ _) | (with_reducible refine below_drewN ?_ _) | (with_reducible refine Below.drew ?_) | (with_reducible refine Below.alloc ?_ ?_ _) | (with_reducible refine Below.setCell ?_ ?_ _) | (with_reducible refine Below.trans ?_ (Below.mono (by assumption) ?_)) | (with_reducible exact Nat.le_refl _) | (with_reducible assumption) | omega | (simp; omega) | (simp; done))))).mono ?_; rintro e w1 ⟨rfl, hb1⟩; obtain ⟨hc1, hf1⟩ := bcell hb1; (try simp only [World.size_drew] at hc1 hf1); have hz1 := hb1.size; (try simp at hz1); have HB1 := Lib.hid hb1; clear hb1; have l3 : w.heap.size < w1.heap.size := (by omega)))
  all_goals
    go_wp2_with fail
    have hb1 := HB1.out
    have q0 : w1.heap[w.heap.size]? = some zeroblk := (hb1.block _ (by simp)).trans (heap_alloc_new w _)
    obtain ⟨s0, s1, s2, s3, s4, s5, s6, sf, sl⟩ := seven q0
    clear q0
    refine bodyPost_ret (v := elE q y) (by simp [results, Tryz.results201, go_sem, s0, s1, s2, s3, s4, s5, s6]) rfl ⟨rfl, ?_⟩
    (repeat' (first | (with_reducible assumption) | (with_reducible exact Below.refl _ _) | (with_reducible refine below_drewN ?_ _) | (with_reducible refine Below.drew ?_) | (with_reducible refine Below.alloc ?_ ?_ _) | (with_reducible refine Below.setCell ?_ ?_ _) | (with_reducible refine Below.trans ?_ (Below.mono (by assumption) ?_)) | (with_reducible exact Nat.le_refl _) | (with_reducible assumption) | omega | (simp; omega) | (simp; done)))
set_option maxHeartbeats 2000000 in
/-- impl.mapped over elements, at that closure. -/
theorem mapped_pow (q : Int) (KB : Nat) (v : Value) (f f2 : Nat → Int) (n : Nat) (w : World) (hv : Se w v q f n) (hl : n ≤ 1000)
    (HC : ∀ i, i < n → ∀ w', Below w.heap.size w w' → Calls Tryz.prog 188 #[elE q (f i), .pointer (some ⟨KB, 0, none⟩)] w' fun e w'' => e = .returned (elE q (f2 i)) ∧ Below w'.heap.size w' w'') :
    Calls Tryz.prog 164 #[v, .func (.func 188) #[] #[.pointer (some ⟨KB, 0, none⟩)]] w fun e w' => ∃ g, e = .returned (.slice (some ⟨g, 0, none⟩) n n) ∧ w.heap.size ≤ g ∧ Blk w' g n ∧ Els w' g q f2 n ∧ Below w.heap.size w w' := by
  obtain ⟨g, cap, rfl, hg, he⟩ := hv
  have HX : Hid (∀ (T1 T2 : TypeId) (i : Nat) w', i < n → Below ((w.alloc (.cells #[.slice (some ⟨g, 0, none⟩) n cap] T1)).alloc (.cells #[.func (.func 188) #[] #[.pointer (some ⟨KB, 0, none⟩)]] T2)).heap.size ((w.alloc (.cells #[.slice (some ⟨g, 0, none⟩) n cap] T1)).alloc (.cells #[.func (.func 188) #[] #[.pointer (some ⟨KB, 0, none⟩)]] T2)) w' →
      Calls Tryz.prog 201 #[.int .i64 i, .pointer (some ⟨w.heap.size + 1, 0, none⟩), .pointer (some ⟨w.heap.size, 0, none⟩)] w' fun e w'' => e = .returned (elE q (f2 i)) ∧ Below w'.heap.size w' w'') := Lib.hid fun T1 T2 i w' hi hb => by
    have hbw : Below w.heap.size w w' := by (repeat' (first | (with_reducible assumption) | (with_reducible exact Below.refl _ _) | (with_reducible refine below_drewN ?_ _) | (with_reducible refine Below.drew ?_) | (with_reducible refine Below.alloc ?_ ?_ _) | (with_reducible refine Below.setCell ?_ ?_ _) | (with_reducible refine Below.trans ?_ (Below.mono (by assumption) ?_)) | (with_reducible exact Nat.le_refl _) | (with_reducible assumption) | omega | (simp; omega) | (simp; done)))
    obtain ⟨t0, t1⟩ := two w (.cells #[.slice (some ⟨g, 0, none⟩) n cap] T1) (.cells #[.func (.func 188) #[] #[.pointer (some ⟨KB, 0, none⟩)]] T2)
    exact clo_pow q _ _ KB i n g cap _ _ w' hi (fun w'' hb'' => HC i hi w'' (hbw.trans (hb''.mono hbw.size)))
      ⟨at_box (T := T2) ((hb.block _ (by simp)).trans t1), at_box (T := T1) ((hb.block _ (by simp; omega)).trans t0), (he.below hbw hg) i hi⟩
  clear HC he
  go_enter Tryz.func164, Tryz.ntmps164
  go_wp2_with fail
  refine (listOf_EE q n f2 (w.heap.size + 1) w.heap.size _ hl (HX.out _ _)).mono ?_
  rintro e w1 ⟨rfl, hk1, he1, hb1⟩
  have HK := Lib.hid hk1; clear hk1
  have HE := Lib.hid he1; clear he1
  have HB1 := Lib.hid hb1; clear hb1
  go_wp2
  go_ret
  have hb1 := HB1.out
  exact ⟨_, rfl, by omega, by simpa using HK.out, by simpa using HE.out, by (repeat' (first | (with_reducible assumption) | (with_reducible exact Below.refl _ _) | (with_reducible refine below_drewN ?_ _) | (with_reducible refine Below.drew ?_) | (with_reducible refine Below.alloc ?_ ?_ _) | (with_reducible refine Below.setCell ?_ ?_ _) | (with_reducible refine Below.trans ?_ (Below.mono (by assumption) ?_)) | (with_reducible exact Nat.le_refl _) | (with_reducible assumption) | omega | (simp; omega) | (simp; done)))⟩
set_option maxRecDepth 100000 in
set_option maxHeartbeats 8000000 in
/-- impl.poly.power. -/
theorem powerPE (m n K : Nat) (v1 : Value) (f : Nat → Int) (w : World) (h : isSz (m : Int) = true) (hv1 : Se w v1 (m : Int) f n) (hf : ∀ i, El (m : Int) (f i)) (hn : n ≤ 50) (hK : K ≤ 1000) :
    Calls Tryz.prog 128 #[polyE (m : Int) v1, .int .i64 K] w fun e w' => ∃ g' cap, e = .returned (polyE (m : Int) (.slice (some ⟨g', 0, none⟩) (redn m (tms m (clm m (tabP m f n K))) m) cap)) ∧ g' < w'.heap.size ∧ Els w' g' (m : Int) (redR m (tms m (clm m (tabP m f n K))) m) (redn m (tms m (clm m (tabP m f n K))) m) ∧ Below w.heap.size w w' := by
  have hq := isSz_le (m : Int) h
  obtain ⟨g1, cap1, rfl, hg1, he1⟩ := hv1
  have HTB := Lib.hid (fun w' (hb : Below w.heap.size w w') => tableM m g1 n cap1 f w' h (by have := hb.size; omega) (he1.below hb hg1) (fun i _ => hf i) (by omega))
  have HM := Lib.hid (fun v w' KB (hKB : w'.cell? ⟨KB, 0, none⟩ = some (.int .i64 K)) (hs : Se w' v (m : Int) (tabF m f n) m) => mapped_pow (m : Int) KB v (tabF m f n) (tabP m f n K) m w' hs (by omega)
    (fun i hi w'' hb'' => powClo (m : Int) (tabF m f n i) K KB w'' h (tab_el h hf i hi) hK ((hb''.cell (p := ⟨KB, 0, none⟩) (World.block_lt_of_cell? w' _ hKB)).trans hKB)))
  have HPT := Lib.hid (fun v w' (hs : Se w' v (m : Int) (tabP m f n K) m) => polyWithTableE m v (clm m (tabP m f n K)) w' h (hs.like fun i hi => (if_pos hi).symm) (clm_el h (tabP_el h hf)))
  clear hf h he1
  generalize redn m (tms m (clm m (tabP m f n K))) m = KK at *
  generalize redR m (tms m (clm m (tabP m f n K))) m = R at *
  generalize tabP m f n K = TC at *
  generalize tabF (m : Int) f n = T at *
  go_enter Tryz.func128, Tryz.ntmps128
  go_wp2_with fail
  have HT3 := Lib.hid (three w (pblk (m : Int) (.slice (some ⟨g1, 0, none⟩) n cap1)) (.cells #[.int .i64 K] 3) pzblk).2.2
  have HKEEP : Hid (∀ w', Below (w.heap.size + 2) ((w.alloc (pblk (m : Int) (.slice (some ⟨g1, 0, none⟩) n cap1))).alloc (.cells #[.int .i64 K] 3)) w' → w'.cell? ⟨w.heap.size, 0, none⟩ = some (.int .i64 m) ∧ w'.cell? ⟨w.heap.size, 1, none⟩ = some (.int .i64 (pr m)) ∧ w'.cell? ⟨w.heap.size, 2, none⟩ = some (.int .i64 (pl m)) ∧ w'.cell? ⟨w.heap.size, 3, none⟩ = some (.slice (some ⟨g1, 0, none⟩) n cap1)) := Lib.hid fun w' hb => by
    obtain ⟨t0, t1⟩ := two w (pblk (m : Int) (.slice (some ⟨g1, 0, none⟩) n cap1)) (.cells #[.int .i64 K] 3)
    obtain ⟨x0, x1, x2, x3, _⟩ := cells4 ((hb.block _ (by omega)).trans t0)
    exact ⟨x0, x1, x2, x3⟩
  have HKB : Hid (∀ w', Below (w.heap.size + 2) ((w.alloc (pblk (m : Int) (.slice (some ⟨g1, 0, none⟩) n cap1))).alloc (.cells #[.int .i64 K] 3)) w' → w'.cell? ⟨w.heap.size + 1, 0, none⟩ = some (.int .i64 K)) := Lib.hid fun w' hb => at_box (T := 3) ((hb.block _ (by omega)).trans (two w (pblk (m : Int) (.slice (some ⟨g1, 0, none⟩) n cap1)) (.cells #[.int .i64 K] 3)).2)
  go_region_held3 (fun w' => w'.cell? ⟨w.heap.size, 0, none⟩ = some (.int .i64 m) ∧ w'.cell? ⟨w.heap.size, 1, none⟩ = some (.int .i64 (pr m)) ∧ w'.cell? ⟨w.heap.size, 2, none⟩ = some (.int .i64 (pl m)) ∧ w'.cell? ⟨w.heap.size, 3, none⟩ = some (.slice (some ⟨g1, 0, none⟩) n cap1))
    (exact HKEEP.out _ (by (try have hb3 := HB3.out); (try have hb4 := HB4.out); (try have hb5 := HB5.out); (repeat' (first | (with_reducible assumption) | (with_reducible exact Below.refl _ _) | (with_reducible refine below_drewN ?_ _) | (with_reducible refine Below.drew ?_) | (with_reducible refine Below.alloc ?_ ?_ _) | (with_reducible refine Below.setCell ?_ ?_ _) | (with_reducible refine Below.trans ?_ (Below.mono (by assumption) ?_)) | (with_reducible exact Nat.le_refl _) | (with_reducible assumption) | omega | (simp; omega) | (simp; done)))))
    (first
    | (go_at_call 85; refine (HTB.out _ (by (repeat' (first | (with_reducible assumption) | (with_reducible exact Below.refl _ _) | (with_reducible refine below_drewN ?_ _) | (with_reducible refine Below.drew ?_) | (with_reducible refine Below.alloc ?_ ?_ _) | (with_reducible refine Below.setCell ?_ ?_ _) | (with_reducible refine Below.trans ?_ (Below.mono (by assumption) ?_)) | (with_reducible exact Nat.le_refl _) | (with_reducible assumption) | omega | (simp; omega) | (simp; done))))).mono ?_; rintro e w3 ⟨g3, rfl, hg3, hk3, he3, hb3⟩; have HSE3 : Hid (Se w3 (.slice (some ⟨g3, 0, none⟩) m m) (m : Int) T m) := Lib.hid ⟨g3, _, rfl, hk3.lt, he3⟩; clear hk3 he3; obtain ⟨hc3, hf3⟩ := bcell hb3; (try simp only [World.size_drew] at hc3 hf3); have hz3 := hb3.size; (try simp at hz3); have HB3 := Lib.hid hb3; clear hb3; have l3 : w.heap.size + 2 < w3.heap.size := (by omega))
    | (go_at_call 164; refine (HM.out _ _ _ (HKB.out _ (by have hb3 := HB3.out; (repeat' (first | (with_reducible assumption) | (with_reducible exact Below.refl _ _) | (with_reducible refine below_drewN ?_ _) | (with_reducible refine Below.drew ?_) | (with_reducible refine Below.alloc ?_ ?_ _) | (with_reducible refine Below.setCell ?_ ?_ _) | (with_reducible refine Below.trans ?_ (Below.mono (by assumption) ?_)) | (with_reducible exact Nat.le_refl _) | (with_reducible assumption) | omega | (simp; omega) | (simp; done))))) HSE3.out).mono ?_; rintro e w4 ⟨g4, rfl, hg4, hk4, he4, hb4⟩; have HSE4 : Hid (Se w4 (.slice (some ⟨g4, 0, none⟩) m m) (m : Int) TC m) := Lib.hid ⟨g4, _, rfl, hk4.lt, he4⟩; clear hk4 he4; obtain ⟨hc4, hf4⟩ := bcell hb4; (try simp only [World.size_drew] at hc4 hf4); have hz4 := hb4.size; (try simp at hz4); have HB4 := Lib.hid hb4; clear hb4; have l4 : w.heap.size + 2 < w4.heap.size := (by omega))
    | (go_at_call 92; refine (HPT.out _ _ HSE4.out).mono ?_; rintro e w5 ⟨g5, cp5, rfl, hg5, he5, hb5⟩; have HE5 := Lib.hid he5; clear he5; obtain ⟨hc5, hf5⟩ := bcell hb5; (try simp only [World.size_drew] at hc5 hf5); have hz5 := hb5.size; (try simp at hz5); have HB5 := Lib.hid hb5; clear hb5; have l5 : w.heap.size + 2 < w5.heap.size := (by omega)))
  all_goals
    go_wp2_with fail
    have hb3 := HB3.out
    have hb4 := HB4.out
    have hb5 := HB5.out
    have hr : w5.heap[w.heap.size + 2]? = some pzblk := (Below.block (B := w.heap.size + 3) (w := ((w.alloc (pblk (m : Int) (.slice (some ⟨g1, 0, none⟩) n cap1))).alloc (.cells #[.int .i64 K] 3)).alloc pzblk) (by (repeat' (first | (with_reducible assumption) | (with_reducible exact Below.refl _ _) | (with_reducible refine below_drewN ?_ _) | (with_reducible refine Below.drew ?_) | (with_reducible refine Below.alloc ?_ ?_ _) | (with_reducible refine Below.setCell ?_ ?_ _) | (with_reducible refine Below.trans ?_ (Below.mono (by assumption) ?_)) | (with_reducible exact Nat.le_refl _) | (with_reducible assumption) | omega | (simp; omega) | (simp; done)))) (w.heap.size + 2) (by omega)).trans HT3.out
    obtain ⟨r0, r1, r2, r3, rf, rl0⟩ := cells4 hr
    refine bodyPost_ret (v := polyE (m : Int) (.slice (some ⟨g5, 0, none⟩) KK cp5)) (by simp [results, Tryz.results128, go_sem, r0, r1, r2, r3]) rfl ⟨g5, cp5, rfl, by simp; omega, ?_, ?_⟩
    · exact HE5.out.over hr (by omega) (fun k hk => by (repeat' (first | (with_reducible rfl) | (with_reducible refine (heap_setCell_other _ _ _ _ ?_).trans ?_) | (with_reducible refine (drew_heap' _ _).trans ?_) | exact hk)))
    · (repeat' (first | (with_reducible assumption) | (with_reducible exact Below.refl _ _) | (with_reducible refine below_drewN ?_ _) | (with_reducible refine Below.drew ?_) | (with_reducible refine Below.alloc ?_ ?_ _) | (with_reducible refine Below.setCell ?_ ?_ _) | (with_reducible refine Below.trans ?_ (Below.mono (by assumption) ?_)) | (with_reducible exact Nat.le_refl _) | (with_reducible assumption) | omega | (simp; omega) | (simp; done)))
end Go.Proofs.YtljijnanmpajaaaGreat
