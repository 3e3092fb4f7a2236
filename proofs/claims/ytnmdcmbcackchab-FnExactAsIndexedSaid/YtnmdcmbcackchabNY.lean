/- AsIndexed, of both, by contracts; the walk of its law. -/
import Derived.Test.YtnmdcmbcackchabNX
import Derived.Test.YtnmdcmbcackchabKL
namespace Go.Proofs.Ytnmdcmbcackchab
open Go.RowKit
set_option maxHeartbeats 1000000 in
/-- impl.listOf at impl.AsIndexed$1. -/
theorem listOf_AX (n : Nat) (f : Nat → Int) (A0 A1 A2 : Nat) (w : World) (hn : n ≤ 1000) (HX : ∀ (i : Nat) w', i < n → Below w.heap.size w w' → Calls Try.prog 39 #[.int .i64 i, .pointer (some ⟨A0, 0, none⟩), .pointer (some ⟨A1, 0, none⟩), .pointer (some ⟨A2, 0, none⟩)] w' fun e w'' => e = .returned (.int .i64 (f i)) ∧ Below w'.heap.size w' w'') :
    Calls Try.prog 37 #[.int .i64 n, .func (.func 39) #[] #[.pointer (some ⟨A0, 0, none⟩), .pointer (some ⟨A1, 0, none⟩), .pointer (some ⟨A2, 0, none⟩)]] w fun e w' => ∃ v, e = .returned v ∧ Row w' w.heap.size v (fl f n) ∧ Below w.heap.size w w' := by
  obtain ⟨i0, hi, iz0, iz1, iz2⟩ := info_parts Try.infoI
  have HXX := Lib.hid HX; clear HX
  go_enter Try.func37, Try.ntmps37
  go_wp2_with (at_make; refine wpList_make_full _ rfl _ _ 22 rfl w.heap.size 3 i0 (.int .i64 0) 1 Try.underlying22 hi iz0 iz1 .i64 .i64 _ _ n rfl rfl rfl rfl ?c3 ?c4 ?c5 ?_)
  case c3 => rw [iz2]; omega
  case c4 => unfold maxLen; omega
  case c5 => omega
  intro w1 hown hgrow
  have HR := Lib.hid (Row.madeF f hown)
  have HB := Lib.hid ((Below.refl w.heap.size w).grown hgrow (Nat.le_refl _) (fun k hk => by cases hk))
  clear hown hgrow
  go_wp2_with fail
  go_loopw [11] (fun vi wr => ∃ i : Nat, i ≤ n ∧ vi = .int .i64 i ∧ Row wr w.heap.size (.slice (some ⟨w.heap.size, 0, none⟩) n n) (fl (part0 f i) n) ∧ w.heap.size < wr.heap.size ∧ Below w.heap.size w wr) (fun vi _ => n - (intOf vi).toNat)
  case atStart =>
    refine ⟨0, Nat.zero_le _, rfl, HR.out, ?_, HB.out⟩
    have := HR.out.lt w.heap.size rfl
    omega
  case round =>
    obtain ⟨i, hi, rfl, hr, hgl, hbel⟩ := hrel
    by_cases hlt : i < n
    · have HX' := Lib.hid (HXX.out i _ hlt hbel)
      have HR := Lib.hid hr; clear hr
      have HBL := Lib.hid hbel; clear hbel
      go_wp2_with fail
      refine HX'.out.mono ?_
      rintro e w2 ⟨rfl, hb2⟩
      have hr := HR.out.below hb2
      have HB2 := Lib.hid (HBL.out.trans (hb2.mono HBL.out.size))
      have hgl2 : w.heap.size < w2.heap.size := by have := hb2.size; omega
      clear hb2
      have e2 := Row.cell (l := fl (part0 f i) n) (cap := n) (by rw [fl_len]; exact hr) i (by rw [fl_len]; exact hlt)
      have f2 := hr.frozen (by rw [fl_len]) i
      have HR' := Lib.hid (hr.store (by rw [fl_len]) i (f i))
      clear hr
      generalize (fl (part0 f i) n).getD i 0 = u at *
      have HS := Lib.hid (part0_step f i)
      generalize f i = x at *
      go_wp2
      go_roundw
      case rel =>
        refine ⟨i + 1, by omega, by go_num, ?_, by simpa using hgl2, HB2.out.setCell (Nat.le_refl _) _⟩
        rw [← HS.out, ← fl_set]
        exact HR'.out
      case measure => simp [intOf]; omega
    · obtain rfl : n = i := by omega
      go_wp2
      go_ret
      refine ⟨_, rfl, ?_, hbel⟩
      rw [← part0_all]
      exact hr


theorem results_tmp4 {fn : Func} {t u v x : Tmp} (h : fn.results = #[.tmp t, .tmp u, .tmp v, .tmp x]) (tmps : Array Value) (P : Program) (w : World) :
    (results fn tmps).run P w = .ok (.tuple #[tmps.getD t undef, tmps.getD u undef, tmps.getD v undef, tmps.getD x undef]) w := by
  simp [results, h]
/-- A polynomial that is one of powers. -/
def axOK (q : Int) (l : List Int) : Bool := (isSz q && good q l) && (!decide (l.length = 0) && decide (l.getD 0 0 = 0))
/-- The least power. -/
structure Lst (l : List Int) (r : Nat) : Prop where
  lt : r < l.length
  ne : l.getD r 0 ≠ 0
  lo : ∀ j, j < r → l.getD j 0 = 0
  pos : 1 ≤ r
theorem lst_is {q : Int} {l : List Int} (h : axOK q l = true) : ∃ r, Lst l r := by
  simp only [axOK, Bool.and_eq_true, Bool.not_eq_true', decide_eq_false_iff_not, decide_eq_true_iff] at h
  obtain ⟨⟨_, hg⟩, h0, hz⟩ := h
  have hlast : l.getD (l.length - 1) 0 ≠ 0 := by
    simp only [good, Bool.and_eq_true, Bool.or_eq_true, decide_eq_true_iff] at hg
    rcases hg.2.2 with h1 | h1
    · exact absurd h1 h0
    · omega
  have key : ∀ k, k ≤ l.length → (∀ j, j < k → l.getD j 0 = 0) ∨ ∃ r, r < k ∧ l.getD r 0 ≠ 0 ∧ ∀ j, j < r → l.getD j 0 = 0 := by
    intro k
    induction k with
    | zero => intro _; exact .inl fun j hj => absurd hj (Nat.not_lt_zero _)
    | succ k ih =>
      intro hk
      rcases ih (by omega) with h1 | ⟨r, h1, h2, h3⟩
      · by_cases e : l.getD k 0 = 0
        · refine .inl fun j hj => ?_
          by_cases c : j = k
          · subst c; exact e
          · exact h1 j (by omega)
        · exact .inr ⟨k, by omega, e, h1⟩
      · exact .inr ⟨r, by omega, h2, h3⟩
  rcases key l.length (Nat.le_refl _) with h1 | ⟨r, h1, h2, h3⟩
  · exact absurd (h1 (l.length - 1) (by omega)) hlast
  · refine ⟨r, h1, h2, h3, ?_⟩
    by_cases c : r = 0
    · subst c; exact absurd hz h2
    · omega
/-- The pieces. -/
def pcs (l : List Int) (r s : Nat) : Nat → Int := fun i => l.getD (r + s * i) 0
def npc (n r s : Nat) : Nat := (n - 1 - r) / s + 1
theorem npc_lt {n r s i : Nat} (hr : r < n) (hs : 1 ≤ s) : r + s * i < n ↔ i < npc n r s := by
  unfold npc
  rw [Nat.lt_succ_iff, Nat.le_div_iff_mul_le (by omega), Nat.mul_comm i s]
  omega
theorem npc_le {n r s : Nat} (hr : r < n) : npc n r s ≤ n := by
  unfold npc
  have := Nat.div_le_self (n - 1 - r) s
  omega
set_option maxRecDepth 100000 in
set_option maxHeartbeats 4000000 in
/-- The closure of impl.AsIndexed. -/
theorem axClo (i n b off cap r s F R S : Nat) (y : Int) (w : World) (hn : n ≤ 1000) (hi : r + s * i < n)
    (hc : w.cell? ⟨b, off + (r + s * i), none⟩ = some (.int .i64 y)) (hF : w.cell? ⟨F, 0, none⟩ = some (.slice (some ⟨b, off, none⟩) n cap)) (hR : w.cell? ⟨R, 0, none⟩ = some (.int .i64 r)) (hS : w.cell? ⟨S, 0, none⟩ = some (.int .i64 s)) :
    Calls Try.prog 39 #[.int .i64 i, .pointer (some ⟨F, 0, none⟩), .pointer (some ⟨R, 0, none⟩), .pointer (some ⟨S, 0, none⟩)] w fun e w' => e = .returned (.int .i64 y) ∧ Below w.heap.size w w' := by
  obtain ⟨p, hp⟩ : ∃ p, s * i = p := ⟨_, rfl⟩
  have hpI : (s : Int) * (i : Int) = (p : Int) := by rw [← hp]; rfl
  rw [hp] at hi hc
  obtain ⟨k, hk⟩ : ∃ k, r + p = k := ⟨_, rfl⟩
  have hkI : (r : Int) + (p : Int) = (k : Int) := by omega
  rw [hk] at hi hc
  have w1 : IntKind.i64.wrap (p : Int) = (p : Int) := IntWalk.i64_in _ (by omega)
  have w2 : IntKind.i64.wrap (k : Int) = (k : Int) := IntWalk.i64_in _ (by omega)
  have hkn : (k : Int) < (n : Int) := by omega
  go_enter Try.func39, Try.ntmps39
  go_wp2
  go_ret
  exact ⟨rfl, by (repeat' (first | (with_reducible assumption) | (with_reducible exact Below.refl _ _) | (with_reducible refine below_drewN ?_ _) | (with_reducible refine Below.drew ?_) | (with_reducible refine Below.alloc ?_ ?_ _) | (with_reducible refine Below.setCell ?_ ?_ _) | (with_reducible refine Below.trans ?_ (Below.mono (by assumption) ?_)) | (with_reducible exact Nat.le_refl _) | (with_reducible assumption) | omega | (simp; omega) | (simp; done)))⟩
/-- The model's common divisor after k coefficients. -/
def spS (m : Nat) (f : Nat → Int) (r k : Nat) : Nat := if k ≤ r + 1 then m - 1 else ixS m f r (k - (r + 1))
theorem spS_bd (m : Nat) (f : Nat → Int) (r k : Nat) (hm : 2 ≤ m) : 1 ≤ spS m f r k ∧ spS m f r k ≤ m - 1 := by
  unfold spS
  split
  · omega
  · exact ixS_le m f r _ hm
theorem spS_step {l : List Int} {r : Nat} (hl : Lst l r) (m k : Nat) : (l.getD k 0 = 0 → spS m (fun i => l.getD i 0) r (k + 1) = spS m (fun i => l.getD i 0) r k) ∧ (l.getD k 0 ≠ 0 → r ≤ k ∧ spS m (fun i => l.getD i 0) r (k + 1) = Nat.gcd (spS m (fun i => l.getD i 0) r k) (k - r)) := by
  constructor
  · intro h0
    unfold spS
    by_cases h1 : k ≤ r
    · rw [if_pos (by omega), if_pos (by omega)]
    · rw [if_neg (by omega)]
      obtain ⟨j, hj⟩ : ∃ j, k = r + 1 + j := ⟨k - (r + 1), by omega⟩
      subst hj
      rw [show r + 1 + j + 1 - (r + 1) = j + 1 by omega, ixS, if_pos h0]
      by_cases h2 : j = 0
      · subst h2
        rw [if_pos (by omega)]
        rfl
      · rw [if_neg (by omega), show r + 1 + j - (r + 1) = j by omega]
  · intro h0
    have hrk : r ≤ k := by
      refine Classical.byContradiction fun hc => h0 (hl.lo k (by omega))
    refine ⟨hrk, ?_⟩
    unfold spS
    by_cases h1 : k = r
    · subst h1
      rw [if_pos (by omega), if_pos (by omega), Nat.sub_self, Nat.gcd_zero_right]
    · rw [if_neg (by omega)]
      obtain ⟨j, hj⟩ : ∃ j, k = r + 1 + j := ⟨k - (r + 1), by omega⟩
      subst hj
      rw [show r + 1 + j + 1 - (r + 1) = j + 1 by omega, ixS, if_neg h0, show r + 1 + j - r = j + 1 by omega]
      by_cases h2 : j = 0
      · subst h2
        rw [if_pos (by omega)]
        rfl
      · rw [if_neg (by omega), show r + 1 + j - (r + 1) = j by omega]
theorem spS_end {m n r : Nat} {f : Nat → Int} (h : r < n) : spS m f r n = ixS m f r (n - (r + 1)) := by
  unfold spS
  by_cases h1 : n ≤ r + 1
  · rw [if_pos h1, show n - (r + 1) = 0 by omega]
    rfl
  · rw [if_neg h1]
theorem impl_AsIndexed_no (q : Int) (v : Value) (l : List Int) (w : World) (hv : Sl w v l) (hl : l.length ≤ 1048576) (h : axOK q l = false) :
    Calls Try.prog 13 #[.int .i64 q, v] w fun e w' => e = .returned (.tuple #[.int .i64 0, .int .i64 0, .slice none 0 0, .bool false]) ∧ Below w.heap.size w w' := by
  cases hg : isSz q && good q l with
  | false =>
    have HP := Lib.hid (fun w' (hb : Below w.heap.size w w') => validPoly_no q v l w' (hv.below hb (Nat.le_refl _)) hl hg)
    obtain ⟨a, cap, rfl⟩ := hv.form
    clear hg hv hl h
    go_enter Try.func13, Try.ntmps13
    go_wp2_with fail
    refine (HP.out _ (by (repeat' (first | (with_reducible assumption) | (with_reducible exact Below.refl _ _) | (with_reducible refine below_drewN ?_ _) | (with_reducible refine Below.drew ?_) | (with_reducible refine Below.alloc ?_ ?_ _) | (with_reducible refine Below.setCell ?_ ?_ _) | (with_reducible refine Below.trans ?_ (Below.mono (by assumption) ?_)) | (with_reducible exact Nat.le_refl _) | (with_reducible assumption) | omega | (simp; omega) | (simp; done))))).mono ?_
    rintro e w1 ⟨rfl, hb1⟩
    have hz_hb1 := hb1.size; (try simp at hz_hb1)
    have HB1 := Lib.hid hb1; clear hb1
    go_wp2_with fail
    ((try simp only [Exit.inBlock, Exit.then]); refine bodyPost_ret (results_tmp4 rfl _ _ _) rfl ?_)
    have hb1 := HB1.out
    exact ⟨rfl, by (repeat' (first | (with_reducible assumption) | (with_reducible exact Below.refl _ _) | (with_reducible refine below_drewN ?_ _) | (with_reducible refine Below.drew ?_) | (with_reducible refine Below.alloc ?_ ?_ _) | (with_reducible refine Below.setCell ?_ ?_ _) | (with_reducible refine Below.trans ?_ (Below.mono (by assumption) ?_)) | (with_reducible exact Nat.le_refl _) | (with_reducible assumption) | omega | (simp; omega) | (simp; done)))⟩
  | true =>
    simp only [Bool.and_eq_true] at hg
    have HP := Lib.hid (fun w' (hb : Below w.heap.size w w') => validPoly_yes q v l w' hg.1 (hv.below hb (Nat.le_refl _)) hg.2)
    by_cases h0 : l.length = 0
    · obtain ⟨a, cap, rfl⟩ := hv.form
      clear hg hv hl h
      generalize (fun i => l.getD i 0) = f at *
      generalize l.length = n at *
      subst h0
      go_enter Try.func13, Try.ntmps13
      go_wp2_with fail
      refine (HP.out _ (by (repeat' (first | (with_reducible assumption) | (with_reducible exact Below.refl _ _) | (with_reducible refine below_drewN ?_ _) | (with_reducible refine Below.drew ?_) | (with_reducible refine Below.alloc ?_ ?_ _) | (with_reducible refine Below.setCell ?_ ?_ _) | (with_reducible refine Below.trans ?_ (Below.mono (by assumption) ?_)) | (with_reducible exact Nat.le_refl _) | (with_reducible assumption) | omega | (simp; omega) | (simp; done))))).mono ?_
      rintro e w1 ⟨g, rfl, hgg, hk1, he1, hb1⟩
      have hV := at_box ((hb1.block w.heap.size (by simp)).trans (heap_alloc_new w (lblk 22 (.slice a 0 cap))))
      have lV : w.heap.size < w1.heap.size := World.block_lt_of_cell? w1 _ hV
      have hz_hb1 := hb1.size; (try simp at hz_hb1)
      have HB1 := Lib.hid hb1; clear hb1 hk1 he1
      go_wp2_with fail
      ((try simp only [Exit.inBlock, Exit.then]); refine bodyPost_ret (results_tmp4 rfl _ _ _) rfl ?_)
      have hb1 := HB1.out
      exact ⟨rfl, by (repeat' (first | (with_reducible assumption) | (with_reducible exact Below.refl _ _) | (with_reducible refine below_drewN ?_ _) | (with_reducible refine Below.drew ?_) | (with_reducible refine Below.alloc ?_ ?_ _) | (with_reducible refine Below.setCell ?_ ?_ _) | (with_reducible refine Below.trans ?_ (Below.mono (by assumption) ?_)) | (with_reducible exact Nat.le_refl _) | (with_reducible assumption) | omega | (simp; omega) | (simp; done)))⟩
    · have hne : l.getD 0 0 ≠ 0 := by
        intro e
        simp only [axOK, hg.1, hg.2, e, Bool.true_and, decide_true, Bool.and_true] at h
        simp at h
        exact h0 (by rw [h]; rfl)
      obtain ⟨b, off, cap, rfl, hb, hcc⟩ := hv.open rfl (by omega)
      have hc0 := hcc 0 (by omega)
      rw [Nat.add_zero] at hc0
      have HC0 := Lib.hid hc0
      clear hg hv hl h hcc hc0
      generalize l.getD 0 0 = y at *
      generalize (fun i => l.getD i 0) = f at *
      generalize l.length = n at *
      have hnb : ((n : Int) == 0) = false := by simp; omega
      have hyb : (y == 0) = false := by simpa using hne
      have hnI : (0 : Int) < (n : Int) := by omega
      go_enter Try.func13, Try.ntmps13
      go_wp2_with fail
      refine (HP.out _ (by (repeat' (first | (with_reducible assumption) | (with_reducible exact Below.refl _ _) | (with_reducible refine below_drewN ?_ _) | (with_reducible refine Below.drew ?_) | (with_reducible refine Below.alloc ?_ ?_ _) | (with_reducible refine Below.setCell ?_ ?_ _) | (with_reducible refine Below.trans ?_ (Below.mono (by assumption) ?_)) | (with_reducible exact Nat.le_refl _) | (with_reducible assumption) | omega | (simp; omega) | (simp; done))))).mono ?_
      rintro e w1 ⟨g, rfl, hgg, hk1, he1, hb1⟩
      have hV := at_box ((hb1.block w.heap.size (by simp)).trans (heap_alloc_new w (lblk 22 (.slice (some ⟨b, off, none⟩) n cap))))
      have lV : w.heap.size < w1.heap.size := World.block_lt_of_cell? w1 _ hV
      have hz_hb1 := hb1.size; (try simp at hz_hb1)
      have hbw : Below w.heap.size w w1 := by (repeat' (first | (with_reducible assumption) | (with_reducible exact Below.refl _ _) | (with_reducible refine below_drewN ?_ _) | (with_reducible refine Below.drew ?_) | (with_reducible refine Below.alloc ?_ ?_ _) | (with_reducible refine Below.setCell ?_ ?_ _) | (with_reducible refine Below.trans ?_ (Below.mono (by assumption) ?_)) | (with_reducible exact Nat.le_refl _) | (with_reducible assumption) | omega | (simp; omega) | (simp; done)))
      have hc1 := (hbw.cell (p := ⟨b, off, none⟩) hb).trans HC0.out
      have lb1 : b < w1.heap.size := by omega
      have HB1 := Lib.hid hb1; clear hb1 hk1 he1 hbw
      go_wp2_with fail
      ((try simp only [Exit.inBlock, Exit.then]); refine bodyPost_ret (results_tmp4 rfl _ _ _) rfl ?_)
      have hb1 := HB1.out
      exact ⟨rfl, by (repeat' (first | (with_reducible assumption) | (with_reducible exact Below.refl _ _) | (with_reducible refine below_drewN ?_ _) | (with_reducible refine Below.drew ?_) | (with_reducible refine Below.alloc ?_ ?_ _) | (with_reducible refine Below.setCell ?_ ?_ _) | (with_reducible refine Below.trans ?_ (Below.mono (by assumption) ?_)) | (with_reducible exact Nat.le_refl _) | (with_reducible assumption) | omega | (simp; omega) | (simp; done)))⟩
set_option maxRecDepth 100000 in
set_option maxHeartbeats 4000000 in
theorem impl_AsIndexed_yes (m r : Nat) (v : Value) (l : List Int) (w : World) (hv : Sl w v l) (h : isSz (m : Int) = true) (hg : good (m : Int) l = true) (h00 : l.getD 0 0 = 0) (hl : Lst l r) :
    Calls Try.prog 13 #[.int .i64 m, v] w fun e w' => ∃ v', e = .returned (.tuple #[.int .i64 r, .int .i64 (ixS m (fun i => l.getD i 0) r (l.length - (r + 1))), v', .bool true]) ∧ Row w' w.heap.size v' (fl (pcs l r (ixS m (fun i => l.getD i 0) r (l.length - (r + 1)))) (npc l.length r (ixS m (fun i => l.getD i 0) r (l.length - (r + 1))))) ∧ Below w.heap.size w w' := by
  have hq := isSz_le (m : Int) h
  have hlen := (good_parts hg).1
  have hrl := hl.lt
  have hr1 := hl.pos
  have HP := Lib.hid (fun w' (hb : Below w.heap.size w w') => validPoly_yes (m : Int) v l w' h (hv.below hb (Nat.le_refl _)) hg)
  have HX := Lib.hid (fun g w' (hgl : g < w'.heap.size) (he : Els w' g (m : Int) (fun i => l.getD i 0) l.length) => indexOfE m g l.length l.length r (fun i => l.getD i 0) w' h (fun i _ => all_el h (good_parts hg).2 i) hgl he (by omega) hrl hl.ne hl.lo)
  have HDG := Lib.hid (fun g w' => degreeE (m : Int) g l.length l.length w' (by omega))
  have hsb := ixS_le m (fun i => l.getD i 0) r (l.length - (r + 1)) (by omega)
  obtain ⟨b, off, cap, rfl, hb, hcc⟩ := hv.open rfl (by omega)
  have hc0 := hcc 0 (by omega)
  rw [Nat.add_zero, h00] at hc0
  have HC0 := Lib.hid hc0
  generalize ixS m (fun i => l.getD i 0) r (l.length - (r + 1)) = s at *
  have HCL := Lib.hid (fun i F R S w' (hi : i < npc l.length r s) (hbw : Below w.heap.size w w') hF hR hS => axClo i l.length b off cap r s F R S (pcs l r s i) w' (by omega) ((npc_lt hrl hsb.1).2 hi) ((hbw.cell (p := ⟨b, off + (r + s * i), none⟩) hb).trans (hcc (r + s * i) ((npc_lt hrl hsb.1).2 hi))) hF hR hS)
  have hnp := npc_le (s := s) hrl
  have hN : (((l.length - 1 - r) / s : Nat) : Int) + 1 = ((npc l.length r s : Nat) : Int) := rfl
  clear h hv hg hcc hc0 h00 hl
  generalize pcs l r s = t at *
  generalize (fun i => l.getD i 0) = f at *
  generalize l.length = n at *
  have hE : (n : Int) - 1 - (r : Int) = ((n - 1 - r : Nat) : Int) := by omega
  have hD : ((n - 1 - r : Nat) : Int).tdiv (s : Int) = (((n - 1 - r) / s : Nat) : Int) := rfl
  have hDb : (n - 1 - r) / s ≤ n - 1 - r := Nat.div_le_self _ _
  generalize npc n r s = N at *
  generalize (n - 1 - r) / s = D at *
  obtain ⟨E, hEE⟩ : ∃ E, n - 1 - r = E := ⟨_, rfl⟩
  rw [hEE] at hE hD hDb
  clear hEE
  have hnb : ((n : Int) == 0) = false := by simp; omega
  have hnI : (0 : Int) < (n : Int) := by omega
  have hs0 : ¬ s = 0 := by omega
  have u0 : IntKind.i64.wrap ((n : Int) - 1) = (n : Int) - 1 := IntWalk.i64_in _ (by omega)
  have u1 : IntKind.i64.wrap (E : Int) = (E : Int) := IntWalk.i64_in _ (by omega)
  have u2 : IntKind.i64.wrap (D : Int) = (D : Int) := IntWalk.i64_in _ (by omega)
  have u3 : IntKind.i64.wrap (N : Int) = (N : Int) := IntWalk.i64_in _ (by omega)
  go_enter Try.func13, Try.ntmps13
  go_wp2_with fail
  refine (HP.out _ (by (repeat' (first | (with_reducible assumption) | (with_reducible exact Below.refl _ _) | (with_reducible refine below_drewN ?_ _) | (with_reducible refine Below.drew ?_) | (with_reducible refine Below.alloc ?_ ?_ _) | (with_reducible refine Below.setCell ?_ ?_ _) | (with_reducible refine Below.trans ?_ (Below.mono (by assumption) ?_)) | (with_reducible exact Nat.le_refl _) | (with_reducible assumption) | omega | (simp; omega) | (simp; done))))).mono ?_
  rintro e w1 ⟨g, rfl, hgg, hk1, he1, hb1⟩
  have hk0 : w1.heap[w.heap.size]? = some (lblk 22 (.slice (some ⟨b, off, none⟩) n cap)) := (hb1.block w.heap.size (by simp)).trans (heap_alloc_new w (lblk 22 (.slice (some ⟨b, off, none⟩) n cap)))
  have hV := at_box hk0
  have lV : w.heap.size < w1.heap.size := World.block_lt_of_cell? w1 _ hV
  have hgl := hk1.lt
  have HE1 := Lib.hid he1
  have HK0 := Lib.hid hk0
  have hz_hb1 := hb1.size; (try simp at hz_hb1)
  have hbw : Below w.heap.size w w1 := by (repeat' (first | (with_reducible assumption) | (with_reducible exact Below.refl _ _) | (with_reducible refine below_drewN ?_ _) | (with_reducible refine Below.drew ?_) | (with_reducible refine Below.alloc ?_ ?_ _) | (with_reducible refine Below.setCell ?_ ?_ _) | (with_reducible refine Below.trans ?_ (Below.mono (by assumption) ?_)) | (with_reducible exact Nat.le_refl _) | (with_reducible assumption) | omega | (simp; omega) | (simp; done)))
  have hc1 := (hbw.cell (p := ⟨b, off, none⟩) hb).trans HC0.out
  have lb1 : b < w1.heap.size := by omega
  have HB1 := Lib.hid hbw
  clear hb1 hk1 he1 hbw hk0
  go_wp2_with fail
  refine (HX.out g _ (by simp; omega) (HE1.out.below (B := w1.heap.size) (by (repeat' (first | (with_reducible assumption) | (with_reducible exact Below.refl _ _) | (with_reducible refine below_drewN ?_ _) | (with_reducible refine Below.drew ?_) | (with_reducible refine Below.alloc ?_ ?_ _) | (with_reducible refine Below.setCell ?_ ?_ _) | (with_reducible refine Below.trans ?_ (Below.mono (by assumption) ?_)) | (with_reducible exact Nat.le_refl _) | (with_reducible assumption) | omega | (simp; omega) | (simp; done)))) hgl)).mono ?_
  rintro e w2 ⟨rfl, hb2⟩
  have HP2 : Hid (w2.heap[w1.heap.size]? = some (pblk (m : Int) (.slice (some ⟨g, 0, none⟩) n n))) := Lib.hid ((hb2.block _ (by simp)).trans (heap_alloc_new w1 _))
  have HV2 : Hid (w2.heap[w.heap.size]? = some (lblk 22 (.slice (some ⟨b, off, none⟩) n cap))) := Lib.hid ((hb2.block _ (by simp; omega)).trans ((Below.heap_alloc w1 _ _ lV).trans HK0.out))
  have HB2 : Hid (Below w.heap.size w w2) := Lib.hid (by have hb1 := HB1.out; (repeat' (first | (with_reducible assumption) | (with_reducible exact Below.refl _ _) | (with_reducible refine below_drewN ?_ _) | (with_reducible refine Below.drew ?_) | (with_reducible refine Below.alloc ?_ ?_ _) | (with_reducible refine Below.setCell ?_ ?_ _) | (with_reducible refine Below.trans ?_ (Below.mono (by assumption) ?_)) | (with_reducible exact Nat.le_refl _) | (with_reducible assumption) | omega | (simp; omega) | (simp; done))))
  have l2 : w1.heap.size < w2.heap.size := by have := hb2.size; simp at this; omega
  clear hb2 hV hc1
  have HT2 := Lib.hid (two w2 (.cells #[.int .i64 (r : Int)] 3) (.cells #[.int .i64 (s : Int)] 3))
  have HALL : Hid (∀ w', Below (w2.heap.size + 2) ((w2.alloc (.cells #[.int .i64 (r : Int)] 3)).alloc (.cells #[.int .i64 (s : Int)] 3)) w' → (w'.cell? ⟨w1.heap.size, 0, none⟩ = some (.int .i64 m) ∧ w'.cell? ⟨w1.heap.size, 1, none⟩ = some (.int .i64 (pr m)) ∧ w'.cell? ⟨w1.heap.size, 2, none⟩ = some (.int .i64 (pl m)) ∧ w'.cell? ⟨w1.heap.size, 3, none⟩ = some (.slice (some ⟨g, 0, none⟩) n n) ∧ w'.cell? ⟨w2.heap.size, 0, none⟩ = some (.int .i64 (r : Int)) ∧ w'.cell? ⟨w2.heap.size + 1, 0, none⟩ = some (.int .i64 (s : Int))) ∧ w'.cell? ⟨w.heap.size, 0, none⟩ = some (.slice (some ⟨b, off, none⟩) n cap) ∧ Below w.heap.size w w') := Lib.hid fun w' hb' => by
    have hold : ∀ k, k < w2.heap.size → w'.heap[k]? = w2.heap[k]? := fun k hk => (hb'.block _ (by omega)).trans ((Below.heap_alloc _ _ _ (by simp; omega)).trans (Below.heap_alloc w2 _ _ hk))
    obtain ⟨p0, p1, p2, p3, _⟩ := cells4 ((hold _ l2).trans HP2.out)
    refine ⟨⟨p0, p1, p2, p3, at_box ((hb'.block _ (by omega)).trans HT2.out.1), at_box ((hb'.block _ (by omega)).trans HT2.out.2)⟩, at_box ((hold _ (by omega)).trans HV2.out), ?_⟩
    have hb2 := HB2.out
    (repeat' (first | (with_reducible assumption) | (with_reducible exact Below.refl _ _) | (with_reducible refine below_drewN ?_ _) | (with_reducible refine Below.drew ?_) | (with_reducible refine Below.alloc ?_ ?_ _) | (with_reducible refine Below.setCell ?_ ?_ _) | (with_reducible refine Below.trans ?_ (Below.mono (by assumption) ?_)) | (with_reducible exact Nat.le_refl _) | (with_reducible assumption) | omega | (simp; omega) | (simp; done)))
  have HLO := Lib.hid (fun w' (hb' : Below (w2.heap.size + 2) ((w2.alloc (.cells #[.int .i64 (r : Int)] 3)).alloc (.cells #[.int .i64 (s : Int)] 3)) w') => listOf_AX N t w.heap.size w2.heap.size (w2.heap.size + 1) w' (by omega) (fun i w'' hi hb'' => by
    obtain ⟨⟨_, _, _, _, z4, z5⟩, z6, z7⟩ := HALL.out w'' (hb'.trans (hb''.mono (by have := hb'.size; simp at this; omega)))
    exact HCL.out i _ _ _ w'' hi z7 z6 z4 z5))
  go_wp2_with fail
  go_region_held3 (fun w' => w'.cell? ⟨w1.heap.size, 0, none⟩ = some (.int .i64 m) ∧ w'.cell? ⟨w1.heap.size, 1, none⟩ = some (.int .i64 (pr m)) ∧ w'.cell? ⟨w1.heap.size, 2, none⟩ = some (.int .i64 (pl m)) ∧ w'.cell? ⟨w1.heap.size, 3, none⟩ = some (.slice (some ⟨g, 0, none⟩) n n) ∧ w'.cell? ⟨w2.heap.size, 0, none⟩ = some (.int .i64 (r : Int)) ∧ w'.cell? ⟨w2.heap.size + 1, 0, none⟩ = some (.int .i64 (s : Int)))
    (exact (HALL.out _ (by (try have hb3 := HB3.out); (try have hb4 := HB4.out); (repeat' (first | (with_reducible assumption) | (with_reducible exact Below.refl _ _) | (with_reducible refine below_drewN ?_ _) | (with_reducible refine Below.drew ?_) | (with_reducible refine Below.alloc ?_ ?_ _) | (with_reducible refine Below.setCell ?_ ?_ _) | (with_reducible refine Below.trans ?_ (Below.mono (by assumption) ?_)) | (with_reducible exact Nat.le_refl _) | (with_reducible assumption) | omega | (simp; omega) | (simp; done))))).1)
    (first
    | (go_at_call 38; refine (HDG.out g _).mono ?_; rintro e w3 ⟨rfl, hb3⟩; obtain ⟨hc3, hf3⟩ := bcell hb3; (try simp only [World.size_drew] at hc3 hf3); have hz3 := hb3.size; (try simp at hz3); have HB3 := Lib.hid hb3; clear hb3; have l3 : w2.heap.size + 1 < w3.heap.size := (by omega))
    | (go_at_call 37; refine (HLO.out _ (by have hb3 := HB3.out; (repeat' (first | (with_reducible assumption) | (with_reducible exact Below.refl _ _) | (with_reducible refine below_drewN ?_ _) | (with_reducible refine Below.drew ?_) | (with_reducible refine Below.alloc ?_ ?_ _) | (with_reducible refine Below.setCell ?_ ?_ _) | (with_reducible refine Below.trans ?_ (Below.mono (by assumption) ?_)) | (with_reducible exact Nat.le_refl _) | (with_reducible assumption) | omega | (simp; omega) | (simp; done))))).mono ?_; rintro e w4 ⟨v4, rfl, hr4, hb4⟩; have HR4 := Lib.hid hr4; clear hr4; obtain ⟨hc4, hf4⟩ := bcell hb4; (try simp only [World.size_drew] at hc4 hf4); have hz4 := hb4.size; (try simp at hz4); have HB4 := Lib.hid hb4; clear hb4; have l4 : w2.heap.size + 1 < w4.heap.size := (by omega)))
  all_goals
    have HB4W : Hid (Below (w2.heap.size + 2) ((w2.alloc (.cells #[.int .i64 (r : Int)] 3)).alloc (.cells #[.int .i64 (s : Int)] 3)) w4) := Lib.hid (by have hb3 := HB3.out; have hb4 := HB4.out; (repeat' (first | (with_reducible assumption) | (with_reducible exact Below.refl _ _) | (with_reducible refine below_drewN ?_ _) | (with_reducible refine Below.drew ?_) | (with_reducible refine Below.alloc ?_ ?_ _) | (with_reducible refine Below.setCell ?_ ?_ _) | (with_reducible refine Below.trans ?_ (Below.mono (by assumption) ?_)) | (with_reducible exact Nat.le_refl _) | (with_reducible assumption) | omega | (simp; omega) | (simp; done))))
    obtain ⟨⟨_, _, _, _, z4, z5⟩, _, z7⟩ := HALL.out w4 HB4W.out
    have HBF := Lib.hid z7
    obtain ⟨a4, cap4, hv4⟩ := HR4.out.sl.form
    subst hv4
    clear z7
    go_wp2_with fail
    go_quiet (fail)
    go_wp2
    ((try simp only [Exit.inBlock, Exit.then]); refine bodyPost_ret (results_tmp4 rfl _ _ _) rfl ?_)
    have hz2 := HB2.out.size
    exact ⟨_, rfl, HR4.out.mono (by (try simp); omega), by have hbf := HBF.out; (repeat' (first | (with_reducible assumption) | (with_reducible exact Below.refl _ _) | (with_reducible refine below_drewN ?_ _) | (with_reducible refine Below.drew ?_) | (with_reducible refine Below.alloc ?_ ?_ _) | (with_reducible refine Below.setCell ?_ ?_ _) | (with_reducible refine Below.trans ?_ (Below.mono (by assumption) ?_)) | (with_reducible exact Nat.le_refl _) | (with_reducible assumption) | omega | (simp; omega) | (simp; done)))⟩
theorem spec_AsIndexed_no (q : Int) (v : Value) (l : List Int) (w : World) (hv : Sl w v l) (hl : l.length ≤ 1048576) (h : axOK q l = false) :
    Calls Try.prog 11 #[.int .i64 q, v] w fun e w' => e = .returned (.tuple #[.int .i64 0, .int .i64 0, .slice none 0 0, .bool false]) ∧ Below w.heap.size w w' := by
  have hp := plGood_any q v l w hv hl
  cases hg : isSz q && good q l with
  | false =>
    rw [hg] at hp
    have HP := Lib.hid hp
    obtain ⟨a, cap, rfl⟩ := hv.form
    clear hp hg hv hl h
    go_enter Try.func11, Try.ntmps11
    go_wp2_with fail
    refine HP.out.mono ?_
    rintro e w1 ⟨rfl, hb1⟩
    go_wp2
    ((try simp only [Exit.inBlock, Exit.then]); refine bodyPost_ret (results_tmp4 rfl _ _ _) rfl ?_)
    exact ⟨rfl, hb1⟩
  | true =>
    rw [hg] at hp
    simp only [Bool.and_eq_true] at hg
    have HP := Lib.hid hp
    by_cases h0 : l.length = 0
    · obtain ⟨a, cap, rfl⟩ := hv.form
      clear hg hv hl h hp
      generalize l.length = n at *
      subst h0
      go_enter Try.func11, Try.ntmps11
      go_wp2_with fail
      refine HP.out.mono ?_
      rintro e w1 ⟨rfl, hb1⟩
      go_wp2
      ((try simp only [Exit.inBlock, Exit.then]); refine bodyPost_ret (results_tmp4 rfl _ _ _) rfl ?_)
      exact ⟨rfl, hb1⟩
    · have hne : l.getD 0 0 ≠ 0 := by
        intro e
        simp only [axOK, hg.1, hg.2, e, Bool.true_and, decide_true, Bool.and_true] at h
        simp at h
        exact h0 (by rw [h]; rfl)
      obtain ⟨b, off, cap, rfl, hb, hcc⟩ := hv.open rfl (by omega)
      have hc0 := hcc 0 (by omega)
      rw [Nat.add_zero] at hc0
      have HC0 := Lib.hid hc0
      clear hg hv hl h hcc hc0 hp
      generalize l.getD 0 0 = y at *
      generalize l.length = n at *
      have hnb : ((n : Int) == 0) = false := by simp; omega
      have hyb : (y == 0) = false := by simpa using hne
      have hnI : (0 : Int) < (n : Int) := by omega
      go_enter Try.func11, Try.ntmps11
      go_wp2_with fail
      refine HP.out.mono ?_
      rintro e w1 ⟨rfl, hb1⟩
      have hc1 := (hb1.cell (p := ⟨b, off, none⟩) hb).trans HC0.out
      have HB1 := Lib.hid hb1
      clear hb1
      go_wp2
      ((try simp only [Exit.inBlock, Exit.then]); refine bodyPost_ret (results_tmp4 rfl _ _ _) rfl ?_)
      exact ⟨rfl, HB1.out⟩
set_option maxRecDepth 100000 in
set_option maxHeartbeats 4000000 in
theorem spec_AsIndexed_yes (m r : Nat) (v : Value) (l : List Int) (w : World) (hv : Sl w v l) (h : isSz (m : Int) = true) (hg : good (m : Int) l = true) (h00 : l.getD 0 0 = 0) (hl : Lst l r) :
    Calls Try.prog 11 #[.int .i64 m, v] w fun e w' => ∃ v', e = .returned (.tuple #[.int .i64 r, .int .i64 (ixS m (fun i => l.getD i 0) r (l.length - (r + 1))), v', .bool true]) ∧ Row w' w.heap.size v' (fl (pcs l r (ixS m (fun i => l.getD i 0) r (l.length - (r + 1)))) (npc l.length r (ixS m (fun i => l.getD i 0) r (l.length - (r + 1))))) ∧ Below w.heap.size w w' := by
  obtain ⟨i0, hi, iz0, iz1, iz2⟩ := info_parts Try.infoI
  have hq := isSz_le (m : Int) h
  have hlen := (good_parts hg).1
  have hrl := hl.lt
  have hr1 := hl.pos
  have hp := plGood_any (m : Int) v l w hv (by omega)
  rw [h, hg] at hp
  have HP := Lib.hid hp
  have HGC := Lib.hid (fun a b w (ha : a ≤ 70000) (hb : b ≤ 70000) => peGcd_any b a w ha hb)
  have HST := Lib.hid (spS_step hl m)
  have HBD := Lib.hid (fun k => spS_bd m (fun i => l.getD i 0) r k (by omega))
  have HEN := Lib.hid (spS_end (m := m) (f := fun i => l.getD i 0) hrl)
  have HS0 : Hid (spS m (fun i => l.getD i 0) r 0 = m - 1) := Lib.hid (by unfold spS; rw [if_pos (by omega)])
  have hsb := ixS_le m (fun i => l.getD i 0) r (l.length - (r + 1)) (by omega)
  have HNE := Lib.hid hl.ne
  have HLO := Lib.hid hl.lo
  obtain ⟨b, off, cap, rfl, hb, hcc⟩ := hv.open rfl (by omega)
  have HC := Lib.hid hcc
  have hc0 := hcc 0 (by omega)
  rw [Nat.add_zero, h00] at hc0
  have HC0 := Lib.hid hc0
  generalize spS m (fun i => l.getD i 0) r = sp at *
  generalize ixS m (fun i => l.getD i 0) r (l.length - (r + 1)) = s at *
  have HNP := Lib.hid (fun i => npc_lt (n := l.length) (i := i) hrl hsb.1)
  have hnp := npc_le (s := s) hrl
  have HPC : Hid (∀ i, pcs l r s i = l.getD (r + s * i) 0) := Lib.hid fun _ => rfl
  have HFS := Lib.hid (fl_succ (pcs l r s))
  have HFL := Lib.hid (fl_len (pcs l r s))
  have HF0 : Hid (fl (pcs l r s) 0 = []) := Lib.hid rfl
  clear h hv hg hcc hc0 h00 hl hp
  generalize pcs l r s = t at *
  generalize hff : (fun i => l.getD i 0) = f at *
  have HFF : Hid (∀ i, l.getD i 0 = f i) := Lib.hid fun i => by rw [← hff]
  simp only [HFF.out] at HC HST HNE HLO HPC
  clear hff HFF
  generalize l.length = n at *
  generalize npc n r s = N at *
  have hnb : ((n : Int) == 0) = false := by simp; omega
  have hnI : (0 : Int) < (n : Int) := by omega
  have hwm : IntKind.i64.wrap ((m : Int) - 1) = (m : Int) - 1 := IntWalk.i64_in _ (by omega)
  go_enter Try.func11, Try.ntmps11
  go_wp2_with fail
  refine HP.out.mono ?_
  rintro e w1 ⟨rfl, hb1⟩
  have hc1 := (hb1.cell (p := ⟨b, off, none⟩) hb).trans HC0.out
  have HC1 : Hid (∀ i wr, i < n → Below w.heap.size w wr → wr.cell? ⟨b, off + i, none⟩ = some (.int .i64 (f i))) := Lib.hid fun i wr hi hbr => (hbr.cell (p := ⟨b, off + i, none⟩) hb).trans (HC.out i hi)
  have HB1 := Lib.hid hb1
  clear hb1
  go_wp2_with fail
  go_loopw [8] (fun vr wr => ∃ k : Nat, 1 ≤ k ∧ k ≤ r ∧ vr = .int .i64 k ∧ wr = w1) (fun vr _ => r - (intOf vr).toNat)
  case atStart => exact ⟨1, Nat.le_refl _, hr1, rfl, rfl⟩
  case round =>
    obtain ⟨k, hk1, hk2, rfl, rfl⟩ := hrel
    have hck := HC1.out k wr (by omega) HB1.out
    have hknI : (k : Int) < (n : Int) := by omega
    by_cases hkr : k = r
    · subst hkr
      have hy := HNE.out
      generalize f k = y at *
      have hyb : (y == 0) = false := by simpa using hy
      clear hy hc1
      go_wp2_with fail
      go_loopw [9, 40] (fun vs vi ws => ∃ j : Nat, j ≤ n ∧ vi = .int .i64 j ∧ vs = .int .i64 (sp j) ∧ Below w.heap.size w ws) (fun _ vi _ => n - (intOf vi).toNat)
      case atStart => exact ⟨0, Nat.zero_le _, rfl, by rw [HS0.out, show ((m - 1 : Nat) : Int) = (m : Int) - 1 by omega], HB1.out⟩
      case round =>
        obtain ⟨j, hj, rfl, rfl, hbj⟩ := hrel
        have HBJ := Lib.hid hbj
        by_cases hlt : j < n
        · have hcj := HC1.out j wr hlt hbj
          obtain ⟨hs1, hs2⟩ := HST.out j
          have hbd := HBD.out j
          by_cases hz : f j = 0
          · have HSZ := Lib.hid (hs1 hz)
            rw [hz] at hcj
            clear hs1 hs2 hbj hck
            go_wp2
            go_roundw
            case rel => exact ⟨j + 1, by omega, by go_num, by rw [HSZ.out], HBJ.out⟩
            case measure => simp [intOf]; omega
          · obtain ⟨hkj, hsg⟩ := hs2 hz
            have HSG := Lib.hid hsg
            have HG' := Lib.hid (fun w => HGC.out (sp j) (j - k) w (by omega) (by omega))
            have hzb : (f j == 0) = false := by simpa using hz
            have hsub : (j : Int) - (k : Int) = ((j - k : Nat) : Int) := by omega
            have hws : IntKind.i64.wrap ((j - k : Nat) : Int) = ((j - k : Nat) : Int) := IntWalk.i64_in _ (by omega)
            clear hs1 hs2 hbj hsg hz hck
            generalize f j = x at *
            generalize j - k = e at *
            go_wp2_with fail
            refine (HG'.out _).mono ?_
            rintro e' w5 ⟨rfl, hb5⟩
            have HB5 : Hid (Below w.heap.size w w5) := Lib.hid (HBJ.out.trans (hb5.mono HBJ.out.size))
            clear hb5
            go_wp2
            go_roundw
            case rel => exact ⟨j + 1, by omega, by go_num, by rw [HSG.out], HB5.out⟩
            case measure => simp [intOf]; omega
        · obtain rfl : n = j := by omega
          have hse := HEN.out
          rw [hse]
          clear hbj hck
          obtain ⟨W0, hW0⟩ : ∃ W, W = wr := ⟨_, rfl⟩
          rw [← hW0] at HBJ ⊢
          clear hW0
          go_wp2_with fail
          go_loopw [12, 13] (fun vo vk ws => ∃ i : Nat, i ≤ N ∧ vk = .int .i64 (k + s * i : Nat) ∧ Row ws W0.heap.size vo (fl t i) ∧ Below W0.heap.size W0 ws) (fun _ vk _ => n + s - (intOf vk).toNat)
          case atStart => exact ⟨0, Nat.zero_le _, by simp, by rw [HF0.out]; exact Row.nil _ _, Below.refl _ _⟩
          case round =>
            obtain ⟨i, hiN, rfl, hr, hbi⟩ := hrel
            have HR := Lib.hid hr
            have HBI := Lib.hid hbi
            have HBII : Hid (Below w.heap.size w wr) := Lib.hid (HBJ.out.trans (hbi.mono HBJ.out.size))
            have hnp1 := HNP.out i
            have hln := HFL.out i
            have hzi := hbi.size
            have hpc := HPC.out i
            have hfs := HFS.out i
            obtain ⟨p, hp⟩ : ∃ p, k + s * i = p := ⟨_, rfl⟩
            rw [hp] at hnp1 hpc ⊢
            have HNX : Hid (k + s * (i + 1) = p + s) := Lib.hid (by rw [Nat.mul_succ]; omega)
            clear hr hbi hp
            by_cases hlt2 : p < n
            · have hcp := HC1.out p wr hlt2 HBII.out
              rw [← hpc] at hcp
              have hi2 := hnp1.1 hlt2
              have HFSS := Lib.hid hfs
              clear hnp1 hpc hfs
              generalize t i = y at *
              go_wp2_with (at_builtin; refine wpList_append_own _ rfl _ _ 22 rfl W0.heap.size 3 i0 (.int .i64 0) 1 8 Try.underlying22 hi iz0 iz1 iz2 rfl (by decide) _ _ _ rfl (World.ownsRow.alloc HR.out _) ⟨wr.heap.size, 0, none⟩ 1 1 [.int .i64 y] rfl rfl ?c1 ?c2 ?c3 ?c4 ?c5 ?_)
              case c1 => exact cell_one_new _ _ _
              case c2 => intro u hu; simp at hu; subst hu; rfl
              case c3 => unfold maxLen; omega
              case c4 => omega
              case c5 => simp; omega
              intro v' w6 hown hgrow _
              have HR6 := Lib.hid (Row.appended (l := fl t i) (by rw [hln]; exact hown))
              have hb6 := HBI.out.alloc (by omega) (.cells #[.int .i64 y] 3)
              have HB6 := Lib.hid (hb6.grown hgrow (by simp; omega) (fun g hg => (HR.out.lt g hg).1))
              clear hown hgrow hb6
              go_wp2
              go_roundw
              case rel => exact ⟨i + 1, by omega, by rw [HNX.out]; first | rfl | go_num, by rw [HFSS.out]; exact HR6.out, HB6.out⟩
              case measure => simp [intOf]; omega
            · obtain rfl : N = i := by
                have := fun h => hlt2 (hnp1.2 h)
                omega
              clear hnp1 hpc hfs
              go_wp2
              ((try simp only [Exit.inBlock, Exit.then]); refine bodyPost_ret (results_tmp4 rfl _ _ _) rfl ?_)
              exact ⟨_, rfl, HR.out.mono HBJ.out.size, HBII.out⟩
    · have hz := HLO.out k (by omega)
      rw [hz] at hck
      go_wp2
      go_roundw
      case rel => exact ⟨k + 1, by omega, by omega, by go_num, by first | rfl | trivial⟩
      case measure => simp [intOf]; omega
theorem key_AsIndexed (q : Int) (l_f : List Int) (b_f : l_f.length ≤ 1048576) : ∃ (ra rb : Int) (r : List Int) (o : Bool), r.length ≤ 1048576 ∧ (∀ (w : World) (v_f : Value) (_ : Sl w v_f l_f), Calls Try.prog 11 #[.int .i64 q, v_f] w fun e w' => ∃ v, e = .returned (.tuple #[.int .i64 ra, .int .i64 rb, v, .bool o]) ∧ Row w' w.heap.size v r ∧ Below w.heap.size w w') ∧
      (∀ (w : World) (v_f : Value) (_ : Sl w v_f l_f), Calls Try.prog 13 #[.int .i64 q, v_f] w fun e w' => ∃ v, e = .returned (.tuple #[.int .i64 ra, .int .i64 rb, v, .bool o]) ∧ Row w' w.heap.size v r ∧ Below w.heap.size w w') := by
  cases h : axOK q l_f with
  | false => exact ⟨0, 0, [], false, by simp, fun w v hv => (spec_AsIndexed_no q v l_f w hv b_f h).mono (by rintro e w' ⟨rfl, hb⟩; exact ⟨_, rfl, Row.nil _ _, hb⟩), fun w v hv => (impl_AsIndexed_no q v l_f w hv b_f h).mono (by rintro e w' ⟨rfl, hb⟩; exact ⟨_, rfl, Row.nil _ _, hb⟩)⟩
  | true =>
    obtain ⟨r, hl⟩ := lst_is h
    simp only [axOK, Bool.and_eq_true, Bool.not_eq_true', decide_eq_false_iff_not, decide_eq_true_iff] at h
    obtain ⟨⟨hs, hg⟩, _, hz⟩ := h
    have hq := isSz_le q hs
    obtain ⟨m, rfl⟩ := Int.eq_ofNat_of_zero_le (show 0 ≤ q by omega)
    exact ⟨_, _, _, true, by rw [fl_len]; exact Nat.le_trans (npc_le hl.lt) b_f, fun w v hv => spec_AsIndexed_yes m r v l_f w hv hs hg hz hl, fun w v hv => impl_AsIndexed_yes m r v l_f w hv hs hg hz hl⟩
set_option maxRecDepth 100000 in
set_option maxHeartbeats 4000000 in
/-- laws.FnExactAsIndexed. -/
theorem walk_FnExactAsIndexed (q : Int) (a_f : Option Addr) (n_f c_f : Nat) (z_f : List Int) (w : World) (_h_q : (Lit.int .i64 q).wf = true) (h_f : IsRow .i64 w a_f n_f c_f z_f) :
    Calls Try.prog 3 #[.int .i64 q, .slice a_f n_f c_f] w fun e w' => e = .returned (.bool true) ∧ Below w.heap.size w w' := by
  clear _h_q
  obtain ⟨hs_f, hl_f, _⟩ := h_f.sl
  generalize z_f.take n_f = l_f at *
  clear h_f
  subst hl_f
  by_cases b_f : l_f.length ≤ 1048576
  rotate_left
  · have hn_f : (1048576 : Int) < (l_f.length : Int) := by omega
    go_enter Try.func3, Try.ntmps3
    go_wp2
    go_ret
    exact ⟨rfl, Below.refl _ _⟩
  have hn_f : ¬ (1048576 : Int) < (l_f.length : Int) := by omega
  obtain ⟨ra, rb, r, o, hr, k1, k2⟩ := key_AsIndexed q l_f b_f
  have K1 := Lib.hid k1; clear k1
  have K2 := Lib.hid k2; clear k2
  have HS_f := Lib.hid hs_f; clear hs_f
  have HB0 : Hid (Below w.heap.size w w) := Lib.hid (Below.refl _ _)
  go_enter Try.func3, Try.ntmps3
  go_wp2_with fail
  refine (toIntS_any _ l_f _ (HS_f.out.below HB0.out (Nat.le_refl _)) b_f).mono ?_
  rintro e w1 ⟨v_s_f, rfl, hrw1, hbw1⟩
  have hzw1 : w.heap.size ≤ w1.heap.size := hbw1.size
  have HBw1 : Hid (Below w.heap.size w w1) := Lib.hid (HB0.out.trans (hbw1.mono HB0.out.size))
  have hww1 := HBw1.out.size
  clear hbw1 HB0
  have R_s_f_w1 := Lib.hid hrw1; clear hrw1
  have lt_s_f : Hid (∀ g, v_s_f.ownBlock = some g → w.heap.size ≤ g ∧ g < w1.heap.size) := Lib.hid R_s_f_w1.out.lt
  go_wp2_with fail
  refine (K1.out _ v_s_f R_s_f_w1.out.sl).mono ?_
  rintro e w2 ⟨v_sp, rfl, hrw2, hbw2⟩
  have hzw2 : w1.heap.size ≤ w2.heap.size := hbw2.size
  have R_s_f_w2 := Lib.hid (R_s_f_w1.out.below hbw2)
  clear R_s_f_w1
  have HBw2 : Hid (Below w.heap.size w w2) := Lib.hid (HBw1.out.trans (hbw2.mono HBw1.out.size))
  have hww2 := HBw2.out.size
  clear hbw2 HBw1
  have R_sp_w2 := Lib.hid hrw2; clear hrw2
  have lt_sp : Hid (∀ g, v_sp.ownBlock = some g → w1.heap.size ≤ g ∧ g < w2.heap.size) := Lib.hid R_sp_w2.out.lt
  clear R_s_f_w2 lt_s_f
  go_wp2_with fail
  refine (toIntS_any _ l_f _ (HS_f.out.below HBw2.out (Nat.le_refl _)) b_f).mono ?_
  rintro e w3 ⟨v_x_f, rfl, hrw3, hbw3⟩
  have hzw3 : w2.heap.size ≤ w3.heap.size := hbw3.size
  have R_sp_w3 := Lib.hid (R_sp_w2.out.below hbw3)
  clear R_sp_w2
  have HBw3 : Hid (Below w.heap.size w w3) := Lib.hid (HBw2.out.trans (hbw3.mono HBw2.out.size))
  have hww3 := HBw3.out.size
  clear hbw3 HBw2
  have R_x_f_w3 := Lib.hid hrw3; clear hrw3
  have lt_x_f : Hid (∀ g, v_x_f.ownBlock = some g → w2.heap.size ≤ g ∧ g < w3.heap.size) := Lib.hid R_x_f_w3.out.lt
  go_wp2_with fail
  refine (K2.out _ v_x_f R_x_f_w3.out.sl).mono ?_
  rintro e w4 ⟨v_im, rfl, hrw4, hbw4⟩
  have hzw4 : w3.heap.size ≤ w4.heap.size := hbw4.size
  have R_sp_w4 := Lib.hid (R_sp_w3.out.below hbw4)
  clear R_sp_w3
  have R_x_f_w4 := Lib.hid (R_x_f_w3.out.below hbw4)
  clear R_x_f_w3
  have HBw4 : Hid (Below w.heap.size w w4) := Lib.hid (HBw3.out.trans (hbw4.mono HBw3.out.size))
  have hww4 := HBw4.out.size
  clear hbw4 HBw3
  have R_im_w4 := Lib.hid hrw4; clear hrw4
  have lt_im : Hid (∀ g, v_im.ownBlock = some g → w3.heap.size ≤ g ∧ g < w4.heap.size) := Lib.hid R_im_w4.out.lt
  go_wp2_with fail
  refine (eq_same v_im v_sp r _ _ _ R_im_w4.out R_sp_w4.out (by omega)).mono ?_
  rintro e w5 ⟨rfl, hbw5⟩
  have hzw5 : w4.heap.size ≤ w5.heap.size := hbw5.size
  have R_sp_w5 := Lib.hid (R_sp_w4.out.below hbw5)
  clear R_sp_w4
  have R_x_f_w5 := Lib.hid (R_x_f_w4.out.below hbw5)
  clear R_x_f_w4
  have R_im_w5 := Lib.hid (R_im_w4.out.below hbw5)
  clear R_im_w4
  have HBw5 : Hid (Below w.heap.size w w5) := Lib.hid (HBw4.out.trans (hbw5.mono HBw4.out.size))
  have hww5 := HBw5.out.size
  clear hbw5 HBw4
  go_wp2_with fail
  refine (toIntS_any _ l_f _ (HS_f.out.below HBw5.out (Nat.le_refl _)) b_f).mono ?_
  rintro e w6 ⟨v_y_f, rfl, hrw6, hbw6⟩
  have hzw6 : w5.heap.size ≤ w6.heap.size := hbw6.size
  have R_sp_w6 := Lib.hid (R_sp_w5.out.below hbw6)
  clear R_sp_w5
  have R_x_f_w6 := Lib.hid (R_x_f_w5.out.below hbw6)
  clear R_x_f_w5
  have R_im_w6 := Lib.hid (R_im_w5.out.below hbw6)
  clear R_im_w5
  have HBw6 : Hid (Below w.heap.size w w6) := Lib.hid (HBw5.out.trans (hbw6.mono HBw5.out.size))
  have hww6 := HBw6.out.size
  clear hbw6 HBw5
  have R_y_f_w6 := Lib.hid hrw6; clear hrw6
  have lt_y_f : Hid (∀ g, v_y_f.ownBlock = some g → w5.heap.size ≤ g ∧ g < w6.heap.size) := Lib.hid R_y_f_w6.out.lt
  go_wp2_with fail
  refine (eq_same v_x_f v_y_f l_f _ _ _ R_x_f_w6.out R_y_f_w6.out (by omega)).mono ?_
  rintro e w7 ⟨rfl, hbw7⟩
  have hzw7 : w6.heap.size ≤ w7.heap.size := hbw7.size
  have R_sp_w7 := Lib.hid (R_sp_w6.out.below hbw7)
  clear R_sp_w6
  have R_x_f_w7 := Lib.hid (R_x_f_w6.out.below hbw7)
  clear R_x_f_w6
  have R_im_w7 := Lib.hid (R_im_w6.out.below hbw7)
  clear R_im_w6
  have R_y_f_w7 := Lib.hid (R_y_f_w6.out.below hbw7)
  clear R_y_f_w6
  have HBw7 : Hid (Below w.heap.size w w7) := Lib.hid (HBw6.out.trans (hbw7.mono HBw6.out.size))
  have hww7 := HBw7.out.size
  clear hbw7 HBw6
  clear R_y_f_w7 lt_y_f
  go_wp2_with fail
  refine (mark_any v_x_f l_f _ (1) _ R_x_f_w7.out (by omega) (by omega) (by omega)).mono ?_
  rintro e w8 ⟨rfl, hrw8, hgw8⟩
  have hzw8 : w7.heap.size ≤ w8.heap.size := hgw8.size
  have R_sp_w8 := Lib.hid (R_sp_w7.out.keep (w' := w8) fun g hg => hgw8.block g (R_sp_w7.out.lt g hg).2 fun e => by have h1 := lt_sp.out g hg; have h2 := lt_x_f.out g e.symm; omega)
  clear R_sp_w7
  have R_im_w8 := Lib.hid (R_im_w7.out.keep (w' := w8) fun g hg => hgw8.block g (R_im_w7.out.lt g hg).2 fun e => by have h1 := lt_im.out g hg; have h2 := lt_x_f.out g e.symm; omega)
  clear R_im_w7
  have HBw8 : Hid (Below w.heap.size w w8) := Lib.hid (Below.grown HBw7.out hgw8 (by omega) (fun g e => by have h2 := lt_x_f.out g e; omega))
  have hww8 := HBw8.out.size
  have R_x_f_w8 := Lib.hid hrw8
  clear hrw8 hgw8 HBw7 R_x_f_w7
  clear R_x_f_w8 lt_x_f
  have hpos : ¬ (1 + (l_f.length : Int)) < (0 : Int) := by omega
  go_wp2_with fail
  refine (eq_same v_im v_sp r _ _ _ R_im_w8.out R_sp_w8.out (by omega)).mono ?_
  rintro e w9 ⟨rfl, hbw9⟩
  have hzw9 : w8.heap.size ≤ w9.heap.size := hbw9.size
  have R_sp_w9 := Lib.hid (R_sp_w8.out.below hbw9)
  clear R_sp_w8
  have R_im_w9 := Lib.hid (R_im_w8.out.below hbw9)
  clear R_im_w8
  have HBw9 : Hid (Below w.heap.size w w9) := Lib.hid (HBw8.out.trans (hbw9.mono HBw8.out.size))
  have hww9 := HBw9.out.size
  clear hbw9 HBw8
  go_wp2_with fail
  refine (mark_any v_im r _ (1) _ R_im_w9.out (by omega) (by omega) (by omega)).mono ?_
  rintro e w10 ⟨rfl, hrw10, hgw10⟩
  have hzw10 : w9.heap.size ≤ w10.heap.size := hgw10.size
  have R_sp_w10 := Lib.hid (R_sp_w9.out.keep (w' := w10) fun g hg => hgw10.block g (R_sp_w9.out.lt g hg).2 fun e => by have h1 := lt_sp.out g hg; have h2 := lt_im.out g e.symm; omega)
  clear R_sp_w9
  have HBw10 : Hid (Below w.heap.size w w10) := Lib.hid (Below.grown HBw9.out hgw10 (by omega) (fun g e => by have h2 := lt_im.out g e; omega))
  have hww10 := HBw10.out.size
  have R_im_w10 := Lib.hid hrw10
  clear hrw10 hgw10 HBw9 R_im_w9
  go_wp2_with fail
  refine (held_any v_im r.length _ (1) _ R_im_w10.out (by omega) (by omega) (by omega)).mono ?_
  rintro e wx1 ⟨rfl, rfl⟩
  go_wp2_with fail
  refine (toIntS_any _ l_f _ (HS_f.out.below HBw10.out (Nat.le_refl _)) b_f).mono ?_
  rintro e w11 ⟨v_t_f, rfl, hrw11, hbw11⟩
  have hzw11 : w10.heap.size ≤ w11.heap.size := hbw11.size
  have R_sp_w11 := Lib.hid (R_sp_w10.out.below hbw11)
  clear R_sp_w10
  have R_im_w11 := Lib.hid (R_im_w10.out.below hbw11)
  clear R_im_w10
  have HBw11 : Hid (Below w.heap.size w w11) := Lib.hid (HBw10.out.trans (hbw11.mono HBw10.out.size))
  have hww11 := HBw11.out.size
  clear hbw11 HBw10
  have R_t_f_w11 := Lib.hid hrw11; clear hrw11
  have lt_t_f : Hid (∀ g, v_t_f.ownBlock = some g → w10.heap.size ≤ g ∧ g < w11.heap.size) := Lib.hid R_t_f_w11.out.lt
  go_wp2_with fail
  refine (K2.out _ v_t_f R_t_f_w11.out.sl).mono ?_
  rintro e w12 ⟨v_im2, rfl, hrw12, hbw12⟩
  have hzw12 : w11.heap.size ≤ w12.heap.size := hbw12.size
  have R_sp_w12 := Lib.hid (R_sp_w11.out.below hbw12)
  clear R_sp_w11
  have R_im_w12 := Lib.hid (R_im_w11.out.below hbw12)
  clear R_im_w11
  have R_t_f_w12 := Lib.hid (R_t_f_w11.out.below hbw12)
  clear R_t_f_w11
  have HBw12 : Hid (Below w.heap.size w w12) := Lib.hid (HBw11.out.trans (hbw12.mono HBw11.out.size))
  have hww12 := HBw12.out.size
  clear hbw12 HBw11
  have R_im2_w12 := Lib.hid hrw12; clear hrw12
  have lt_im2 : Hid (∀ g, v_im2.ownBlock = some g → w11.heap.size ≤ g ∧ g < w12.heap.size) := Lib.hid R_im2_w12.out.lt
  clear R_t_f_w12 lt_t_f
  go_wp2_with fail
  refine (eq_same v_im2 v_sp r _ _ _ R_im2_w12.out R_sp_w12.out (by omega)).mono ?_
  rintro e w13 ⟨rfl, hbw13⟩
  have hzw13 : w12.heap.size ≤ w13.heap.size := hbw13.size
  have R_sp_w13 := Lib.hid (R_sp_w12.out.below hbw13)
  clear R_sp_w12
  have R_im_w13 := Lib.hid (R_im_w12.out.below hbw13)
  clear R_im_w12
  have R_im2_w13 := Lib.hid (R_im2_w12.out.below hbw13)
  clear R_im2_w12
  have HBw13 : Hid (Below w.heap.size w w13) := Lib.hid (HBw12.out.trans (hbw13.mono HBw12.out.size))
  have hww13 := HBw13.out.size
  clear hbw13 HBw12
  go_wp2_with fail
  refine (held_any v_im r.length _ (1) _ R_im_w13.out (by omega) (by omega) (by omega)).mono ?_
  rintro e wx2 ⟨rfl, rfl⟩
  go_wp2
  go_ret
  exact ⟨rfl, HBw13.out⟩
end Go.Proofs.Ytnmdcmbcackchab
