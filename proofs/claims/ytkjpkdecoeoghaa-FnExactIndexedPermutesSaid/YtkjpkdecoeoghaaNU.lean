/- impl.poly.indexedPermutes by a contract (its region by an invariant: NG). -/
import Derived.Test.YtkjpkdecoeoghaaNT
namespace Go.Proofs.Ytkjpkdecoeoghaa
open Go.RowKit
def isl (i : Nat) : Nat := if i = 16 then 6 else i + 12
theorem isl_ne (i : Nat) (hi : i < 17) : ∀ j, j < 17 → j ≠ i → isl j ≠ isl i := fun j hj h => by unfold isl; split <;> split <;> omega
/-- The state of a region that writes nothing. -/
def SI (A : (Nat → Value) → Act) (W0 : World) (F : Nat → Value → Prop) (L : Array Bool) (a : Act) (w : World) : Prop := ∃ x, a = A x ∧ Below W0.heap.size W0 w ∧ Ph 17 isl (fun j v _ => F j v) L x w
theorem SI.open {A : (Nat → Value) → Act} {W0 : World} {F : Nat → Value → Prop} {L : Array Bool} {a : Act} {w : World} (h : SI A W0 F L a w) : ∃ x, a = A x ∧ Below W0.heap.size W0 w ∧ Ph 17 isl (fun j v _ => F j v) L x w := h
theorem SI.mk {A : (Nat → Value) → Act} {W0 : World} {F : Nat → Value → Prop} {L : Array Bool} {a : Act} {w : World} (x : Nat → Value) (e : a = A x) (hb : Below W0.heap.size W0 w) (h : Ph 17 isl (fun j v _ => F j v) L x w) : SI A W0 F L a w := ⟨x, e, hb, h⟩
set_option linter.unusedVariables false in
def IF1 (m g n cap R S D b : Nat) (w : World) (l : List Int) (ans : Bool) : Nat → Value → Prop
  | 0, v => v = .func (.func 52) #[] #[.pointer (some ⟨b, 0, none⟩)]
  | 1, v => v = .int .i64 R
  | 2, v => v = .bool true
  | 3, v => v = .bool true
  | 4, v => v = .pointer (some ⟨w.heap.size, 0, none⟩)
  | 5, v => v = fdE (m : Int)
  | 6, v => v = .pointer (some ⟨w.heap.size, 0, none⟩)
  | 7, v => v = .pointer (some ⟨w.heap.size, 0, none⟩)
  | 8, v => v = .int .i64 m
  | 9, v => v = .int .i64 ((m : Int) - 1)
  | 10, v => v = .int .i64 S
  | 11, v => v = .int .i64 D
  | 12, v => ∃ cs, v = .agg cs ∧ RV cs (m : Int) l
  | 13, v => v = .func (.func 44) #[] #[.pointer (some ⟨w.heap.size + 1, 0, none⟩), .pointer (some ⟨w.heap.size, 0, none⟩), .pointer (some ⟨w.heap.size + 1 + 1, 0, none⟩)]
  | 14, v => v = .bool ans
  | 15, v => v = .bool ans
  | 16, v => v = .bool ans
  | _, _ => True
set_option linter.unusedVariables false in
def IF0 (m g n cap R S D b : Nat) (w : World) (l : List Int) (ans : Bool) : Nat → Value → Prop
  | 0, v => v = .func (.func 52) #[] #[.pointer (some ⟨b, 0, none⟩)]
  | 1, v => v = .int .i64 R
  | 2, v => v = .bool false
  | 3, v => v = .bool false
  | 15, v => v = .bool false
  | 16, v => v = .bool false
  | _, _ => True
/-- What indexedPermutes makes of a root. -/
def chg (m R S : Nat) (f : Nat → Int) (n : Nat) (y : Int) : Int := mulF m (pw m y R) (pw m (hor m y f n n) S)
set_option maxRecDepth 100000 in
set_option maxHeartbeats 16000000 in
theorem indexedPermutesE (m g cap n R S : Nat) (f : Nat → Int) (w : World) (h : isSz (m : Int) = true) (hR : R ≤ 15) (hS1 : 1 ≤ S) (hS : S ≤ m - 1) (hg : g < w.heap.size) (he : Els w g (m : Int) f n) (hf : ∀ i, El (m : Int) (f i)) (hn : n ≤ 1000) :
    Calls Try.prog 28 #[polyE (m : Int) (.slice (some ⟨g, 0, none⟩) n cap), .int .i64 R, .int .i64 S] w fun e w' => e = .returned (.bool (npm R S && apart (chg m R S f n) (wh (isRt (m : Int) ((m - 1) / S)) m) [])) ∧ Below w.heap.size w w' := by
  have hq := isSz_le (m : Int) h
  have HN := Lib.hid (fun w => noDivE S w)
  have HNC := Lib.hid (fun b w hc => noDivClo R S b w (by omega) (by omega) hc)
  obtain ⟨D, hD⟩ : ∃ x, (m - 1) / S = x := ⟨_, rfl⟩
  have hD1 : 1 ≤ D := by rw [← hD]; exact Nat.div_pos hS hS1
  have hD2 : D ≤ 15 := by rw [← hD]; exact Nat.le_trans (Nat.div_le_self _ _) (by omega)
  have hquo : ((m : Int) - 1).tdiv (S : Int) = (D : Int) := by rw [← hD, show (m : Int) - 1 = ((m - 1 : Nat) : Int) by omega]; rfl
  have HR := Lib.hid (fun w => rootsE m D w h hD1 hD2)
  have hfew := rt_few (m : Int) D m (by omega)
  have HEL : Hid (∀ i, El (m : Int) ((wh (isRt (m : Int) D) m).getD i 0)) := Lib.hid (wh_els h)
  rw [hD]
  clear hD
  obtain ⟨l, hl⟩ : ∃ x, wh (isRt (m : Int) D) m = x := ⟨_, rfl⟩
  rw [hl] at HR hfew HEL ⊢
  clear hl
  obtain ⟨ans, hans⟩ : ∃ x, apart (chg m R S f n) l [] = x := ⟨_, rfl⟩
  have hSA := fun K1 K2 K3 cs w' (hr : RV cs (m : Int) l) HC => stayApartE m K1 K2 K3 cs l (chg m R S f n) w' h hr (by omega) (fun i _ => (El.pw h (HEL.out i) R).mul h (El.pw h (hor_el h (HEL.out i) (fun i _ => hf i) n (Nat.le_refl n)) S)) HC
  rw [hans] at hSA ⊢
  have HSA := Lib.hid hSA
  clear hSA hans hfew
  have HCH := Lib.hid (fun K1 K2 K3 w' i (hb : Below w.heap.size w w') hc => chgClo m g cap n R S K1 K2 K3 f (l.getD i 0) w' h (HEL.out i) (by omega) (by omega) (by have := hb.size; omega) (he.below hb hg) hf hn hc)
  have h3 := three w (pblk (m : Int) (.slice (some ⟨g, 0, none⟩) n cap)) (.cells #[.int .i64 R] 3 (0, 0)) (.cells #[.int .i64 S] 3 (0, 0))
  clear he hf h
  generalize npm R S = p at *
  go_enter Try.func28, Try.ntmps28
  go_wp2_with fail
  refine (HN.out _).mono ?_
  rintro e w1 ⟨v1, rfl, hv1, hb1⟩
  obtain ⟨b, rfl, hbl, hcb⟩ := hv1
  go_wp2_with fail
  have hz1 := hb1.size
  simp at hz1
  have g0 := (hb1.block _ (by simp; omega)).trans h3.1
  have g1 := (hb1.block _ (by simp)).trans h3.2.1
  have g2 := (hb1.block _ (by simp)).trans h3.2.2
  have HB0 : Hid (Below w.heap.size w w1) := Lib.hid (by (repeat' (first | (with_reducible assumption) | (with_reducible exact Below.refl _ _) | (with_reducible refine below_drewN ?_ _) | (with_reducible refine Below.drew ?_) | (with_reducible refine Below.alloc ?_ ?_ _) | (with_reducible refine Below.setCell ?_ ?_ _) | (with_reducible refine Below.trans ?_ (Below.mono (by assumption) ?_)) | (with_reducible exact Nat.le_refl _) | (with_reducible assumption) | omega | (simp; omega) | (simp; done))))
  clear h3 hb1
  generalize w1 = W0 at *
  have HKEEP : Hid (∀ w', Below W0.heap.size W0 w' → w'.cell? ⟨w.heap.size + 1, 0, none⟩ = some (.int .i64 R) ∧ w'.cell? ⟨w.heap.size, 0, none⟩ = some (.int .i64 m) ∧ w'.cell? ⟨w.heap.size, 1, none⟩ = some (.int .i64 (pr m)) ∧ w'.cell? ⟨w.heap.size, 2, none⟩ = some (.int .i64 (pl m)) ∧ w'.cell? ⟨w.heap.size, 3, none⟩ = some (.slice (some ⟨g, 0, none⟩) n cap) ∧ w'.cell? ⟨w.heap.size + 1 + 1, 0, none⟩ = some (.int .i64 S) ∧ w'.cell? ⟨b, 0, none⟩ = some (.int .i64 S)) := Lib.hid fun w' hb => by
    obtain ⟨x0, x1, x2, x3, _⟩ := cells4 ((hb.block _ (by omega)).trans g0)
    exact ⟨at_box (T := 3) ((hb.block _ (by omega)).trans g1), x0, x1, x2, x3, at_box (T := 3) ((hb.block _ (by omega)).trans g2), (hb.cell (p := ⟨b, 0, none⟩) hbl).trans hcb⟩
  have HST : Hid (∀ cs w', Below W0.heap.size W0 w' → RV cs (m : Int) l → Calls Try.prog 47 #[.agg cs, .func (.func 44) #[] #[.pointer (some ⟨w.heap.size + 1, 0, none⟩), .pointer (some ⟨w.heap.size, 0, none⟩), .pointer (some ⟨w.heap.size + 1 + 1, 0, none⟩)]] w' fun e w'' => e = .returned (.bool ans) ∧ Below w'.heap.size w' w'') := Lib.hid fun cs w' hb hr => by
    refine HSA.out _ _ _ cs w' hr fun i _ w'' hb'' => ?_
    have hb2 : Below W0.heap.size W0 w'' := hb.trans (hb''.mono hb.size)
    have hb0 := HB0.out
    refine HCH.out _ _ _ w'' i (hb0.trans (hb2.mono hb0.size)) ?_
    obtain ⟨a0, a1, a2, a3, a4, a5, _⟩ := HKEEP.out _ hb2
    exact ⟨a0, a1, a2, a3, a4, a5⟩
  clear g0 g1 g2 hcb HSA HCH HEL
  have hS0 : (S : Int) ≠ 0 := by omega
  have hS0n : ¬ S = 0 := by omega
  have hwr1 : IntKind.i64.wrap ((m : Int) - 1) = (m : Int) - 1 := IntWalk.i64_in _ (by omega)
  have hwr2 : IntKind.i64.wrap (D : Int) = (D : Int) := IntWalk.i64_in _ (by omega)
  cases p
  · have HANS : Hid ((false && ans) = false) := Lib.hid rfl
    refine region_cut' (fun a' w' => ∃ (x : Nat → Value), a' = { tmps := #[polyE (m : Int) (.slice (some ⟨g, 0, none⟩) n cap), .int .i64 R, .int .i64 S, .pointer (some ⟨w.heap.size, 0, none⟩), .pointer (some ⟨w.heap.size + 1, 0, none⟩), .pointer (some ⟨w.heap.size + 1 + 1, 0, none⟩), x 6, .func (.func 52) #[] #[.pointer (some ⟨b, 0, none⟩)], .func (.func 44) #[] #[.pointer (some ⟨w.heap.size + 1, 0, none⟩), .pointer (some ⟨w.heap.size, 0, none⟩), .pointer (some ⟨w.heap.size + 1 + 1, 0, none⟩)], .int .i64 S, .func (.func 52) #[] #[.pointer (some ⟨b, 0, none⟩)], .func (.func 44) #[] #[.pointer (some ⟨w.heap.size + 1, 0, none⟩), .pointer (some ⟨w.heap.size, 0, none⟩), .pointer (some ⟨w.heap.size + 1 + 1, 0, none⟩)], x 12, x 13, x 14, x 15, x 16, x 17, x 18, x 19, x 20, x 21, x 22, x 23, x 24, x 25, x 26, x 27], defers := [] } ∧ x 6 = .bool false ∧ Below W0.heap.size W0 w') ?_ ?_
    · intro KC hKC
      have HKC := Lib.hid hKC
      clear hKC
      refine region_inv2 (by kernel_rfl) (by kernel_rfl) (SI (fun x => { tmps := #[polyE (m : Int) (.slice (some ⟨g, 0, none⟩) n cap), .int .i64 R, .int .i64 S, .pointer (some ⟨w.heap.size, 0, none⟩), .pointer (some ⟨w.heap.size + 1, 0, none⟩), .pointer (some ⟨w.heap.size + 1 + 1, 0, none⟩), x 6, .func (.func 52) #[] #[.pointer (some ⟨b, 0, none⟩)], .func (.func 44) #[] #[.pointer (some ⟨w.heap.size + 1, 0, none⟩), .pointer (some ⟨w.heap.size, 0, none⟩), .pointer (some ⟨w.heap.size + 1 + 1, 0, none⟩)], .int .i64 S, .func (.func 52) #[] #[.pointer (some ⟨b, 0, none⟩)], .func (.func 44) #[] #[.pointer (some ⟨w.heap.size + 1, 0, none⟩), .pointer (some ⟨w.heap.size, 0, none⟩), .pointer (some ⟨w.heap.size + 1 + 1, 0, none⟩)], x 12, x 13, x 14, x 15, x 16, x 17, x 18, x 19, x 20, x 21, x 22, x 23, x 24, x 25, x 26, x 27], defers := [] }) W0 (IF0 m g n cap R S D b w l ans)) ?_ ?_ ?_
      · exact SI.mk (sv (fun _ => undef) 6 (.bool false)) rfl (by (repeat' (first | (with_reducible assumption) | (with_reducible exact Below.refl _ _) | (with_reducible refine below_drewN ?_ _) | (with_reducible refine Below.drew ?_) | (with_reducible refine Below.alloc ?_ ?_ _) | (with_reducible refine Below.setCell ?_ ?_ _) | (with_reducible refine Below.trans ?_ (Below.mono (by assumption) ?_)) | (with_reducible exact Nat.le_refl _) | (with_reducible assumption) | omega | (simp; omega) | (simp; done)))) (Ph.none _ _ (by decide))
      · intro L a' w' i o ho hi hdep hcl hI K hK
        have HK := Lib.hid hK
        clear hK
        have hi17 : i < 17 := by simpa using (Array.getElem?_eq_some_iff.1 ho).1
        obtain ⟨x, rfl, hb, hph⟩ := hI.open
        obtain ⟨c0, k0, k1, k2, k3, e0, f0⟩ := HKEEP.out _ hb
        have HKB := Lib.hid f0
        have HPH := Lib.hid hph
        have HBW := Lib.hid hb
        have hlo := hb.size
        clear hb hph hcl
        have hcs : i = 0 ∨ i = 1 ∨ i = 2 ∨ i = 3 ∨ i = 4 ∨ i = 5 ∨ i = 6 ∨ i = 7 ∨ i = 8 ∨ i = 9 ∨ i = 10 ∨ i = 11 ∨ i = 12 ∨ i = 13 ∨ i = 14 ∨ i = 15 ∨ i = 16 := by omega
        clear hi17
        rcases hcs with rfl | rfl | rfl | rfl | rfl | rfl | rfl | rfl | rfl | rfl | rfl | rfl | rfl | rfl | rfl | rfl | rfl
        · obtain rfl := Option.some.inj ho
          clear ho
          clear hdep
          go_simp
          refine HK.out _ _ (SI.mk (sv x 12 (.func (.func 52) #[] #[.pointer (some ⟨b, 0, none⟩)])) rfl HBW.out (HPH.out.step (i := 0) (fun _ _ h => h) (isl_ne 0 (by omega)) (fun k hk => sv_ne hk) rfl))
        · obtain rfl := Option.some.inj ho
          clear ho
          clear hdep
          go_simp
          refine HK.out _ _ (SI.mk (sv x 13 (.int .i64 R)) rfl HBW.out (HPH.out.step (i := 1) (fun _ _ h => h) (isl_ne 1 (by omega)) (fun k hk => sv_ne hk) rfl))
        · obtain rfl := Option.some.inj ho
          clear ho
          have d0 := HPH.out 0 (by omega) (hdep ⟨0, .data⟩ (by simp) rfl)
          have d1 := HPH.out 1 (by omega) (hdep ⟨1, .data⟩ (by simp) rfl)
          replace d0 : x 12 = .func (.func 52) #[] #[.pointer (some ⟨b, 0, none⟩)] := d0
          replace d1 : x 13 = .int .i64 R := d1
          have hy0 : (sv x 12 (.func (.func 52) #[] #[.pointer (some ⟨b, 0, none⟩)])) = x := sv_same d0
          have hy1 : (sv (sv x 12 (.func (.func 52) #[] #[.pointer (some ⟨b, 0, none⟩)])) 13 (.int .i64 R)) = x := by rw [hy0]; exact sv_same d1
          have HY := Lib.hid hy1
          rw [d0, d1]
          clear hy0 hy1 d0 d1
          clear hdep
          go_simp
          refine (HNC.out b _ (HKB.out)).mono ?_
          rintro e w2 ⟨rfl, hb2⟩
          go_wp2_with fail
          refine HK.out _ _ (SI.mk (sv (sv (sv x 12 (.func (.func 52) #[] #[.pointer (some ⟨b, 0, none⟩)])) 13 (.int .i64 R)) 14 (.bool false)) rfl (HBW.out.trans (hb2.mono hlo)) (HPH.out.step (i := 2) (fun _ _ h => h) (isl_ne 2 (by omega)) (fun k hk => (sv_ne hk).trans (by rw [HY.out])) rfl))
        · obtain rfl := Option.some.inj ho
          clear ho
          have d2 := HPH.out 2 (by omega) (hdep ⟨2, .data⟩ (by simp) rfl)
          replace d2 : x 14 = .bool false := d2
          have hy0 : (sv x 14 (.bool false)) = x := sv_same d2
          have HY := Lib.hid hy0
          rw [d2]
          clear hy0 d2
          clear hdep
          go_simp
          refine HK.out _ _ (SI.mk (sv (sv x 14 (.bool false)) 15 (.bool false)) rfl HBW.out (HPH.out.step (i := 3) (fun _ _ h => h) (isl_ne 3 (by omega)) (fun k hk => (sv_ne hk).trans (by rw [HY.out])) rfl))
        · obtain rfl := Option.some.inj ho
          clear ho
          have d3 := HPH.out 3 (by omega) (hdep ⟨3, .guard⟩ (by simp) rfl)
          replace d3 : x 15 = .bool false := d3
          have hy0 : (sv x 15 (.bool false)) = x := sv_same d3
          have HY := Lib.hid hy0
          rw [d3]
          clear hy0 d3
          clear hdep
          rw [if_neg (by simp [Region.wanted, yielded])]
          refine HK.out _ _ (SI.mk (sv (sv x 15 (.bool false)) 16 (undef)) rfl HBW.out (HPH.out.step (i := 4) (fun _ _ h => h) (isl_ne 4 (by omega)) (fun k hk => (sv_ne hk).trans (by rw [HY.out])) trivial))
        · obtain rfl := Option.some.inj ho
          clear ho
          have d3 := HPH.out 3 (by omega) (hdep ⟨3, .guard⟩ (by simp) rfl)
          replace d3 : x 15 = .bool false := d3
          have hy0 : (sv x 15 (.bool false)) = x := sv_same d3
          have HY := Lib.hid hy0
          rw [d3]
          clear hy0 d3
          clear hdep
          rw [if_neg (by simp [Region.wanted, yielded])]
          refine HK.out _ _ (SI.mk (sv (sv x 15 (.bool false)) 17 (undef)) rfl HBW.out (HPH.out.step (i := 5) (fun _ _ h => h) (isl_ne 5 (by omega)) (fun k hk => (sv_ne hk).trans (by rw [HY.out])) trivial))
        · obtain rfl := Option.some.inj ho
          clear ho
          have d3 := HPH.out 3 (by omega) (hdep ⟨3, .guard⟩ (by simp) rfl)
          replace d3 : x 15 = .bool false := d3
          have hy0 : (sv x 15 (.bool false)) = x := sv_same d3
          have HY := Lib.hid hy0
          rw [d3]
          clear hy0 d3
          clear hdep
          rw [if_neg (by simp [Region.wanted, yielded])]
          refine HK.out _ _ (SI.mk (sv (sv x 15 (.bool false)) 18 (undef)) rfl HBW.out (HPH.out.step (i := 6) (fun _ _ h => h) (isl_ne 6 (by omega)) (fun k hk => (sv_ne hk).trans (by rw [HY.out])) trivial))
        · obtain rfl := Option.some.inj ho
          clear ho
          have d3 := HPH.out 3 (by omega) (hdep ⟨3, .guard⟩ (by simp) rfl)
          replace d3 : x 15 = .bool false := d3
          have hy0 : (sv x 15 (.bool false)) = x := sv_same d3
          have HY := Lib.hid hy0
          rw [d3]
          clear hy0 d3
          clear hdep
          rw [if_neg (by simp [Region.wanted, yielded])]
          refine HK.out _ _ (SI.mk (sv (sv x 15 (.bool false)) 19 (undef)) rfl HBW.out (HPH.out.step (i := 7) (fun _ _ h => h) (isl_ne 7 (by omega)) (fun k hk => (sv_ne hk).trans (by rw [HY.out])) trivial))
        · obtain rfl := Option.some.inj ho
          clear ho
          have d3 := HPH.out 3 (by omega) (hdep ⟨3, .guard⟩ (by simp) rfl)
          replace d3 : x 15 = .bool false := d3
          have hy0 : (sv x 15 (.bool false)) = x := sv_same d3
          have HY := Lib.hid hy0
          rw [d3]
          clear hy0 d3
          clear hdep
          rw [if_neg (by simp [Region.wanted, yielded])]
          refine HK.out _ _ (SI.mk (sv (sv x 15 (.bool false)) 20 (undef)) rfl HBW.out (HPH.out.step (i := 8) (fun _ _ h => h) (isl_ne 8 (by omega)) (fun k hk => (sv_ne hk).trans (by rw [HY.out])) trivial))
        · obtain rfl := Option.some.inj ho
          clear ho
          have d3 := HPH.out 3 (by omega) (hdep ⟨3, .guard⟩ (by simp) rfl)
          replace d3 : x 15 = .bool false := d3
          have hy0 : (sv x 15 (.bool false)) = x := sv_same d3
          have HY := Lib.hid hy0
          rw [d3]
          clear hy0 d3
          clear hdep
          rw [if_neg (by simp [Region.wanted, yielded])]
          refine HK.out _ _ (SI.mk (sv (sv x 15 (.bool false)) 21 (undef)) rfl HBW.out (HPH.out.step (i := 9) (fun _ _ h => h) (isl_ne 9 (by omega)) (fun k hk => (sv_ne hk).trans (by rw [HY.out])) trivial))
        · obtain rfl := Option.some.inj ho
          clear ho
          have d3 := HPH.out 3 (by omega) (hdep ⟨3, .guard⟩ (by simp) rfl)
          replace d3 : x 15 = .bool false := d3
          have hy0 : (sv x 15 (.bool false)) = x := sv_same d3
          have HY := Lib.hid hy0
          rw [d3]
          clear hy0 d3
          clear hdep
          rw [if_neg (by simp [Region.wanted, yielded])]
          refine HK.out _ _ (SI.mk (sv (sv x 15 (.bool false)) 22 (undef)) rfl HBW.out (HPH.out.step (i := 10) (fun _ _ h => h) (isl_ne 10 (by omega)) (fun k hk => (sv_ne hk).trans (by rw [HY.out])) trivial))
        · obtain rfl := Option.some.inj ho
          clear ho
          have d3 := HPH.out 3 (by omega) (hdep ⟨3, .guard⟩ (by simp) rfl)
          replace d3 : x 15 = .bool false := d3
          have hy0 : (sv x 15 (.bool false)) = x := sv_same d3
          have HY := Lib.hid hy0
          rw [d3]
          clear hy0 d3
          clear hdep
          rw [if_neg (by simp [Region.wanted, yielded])]
          refine HK.out _ _ (SI.mk (sv (sv x 15 (.bool false)) 23 (undef)) rfl HBW.out (HPH.out.step (i := 11) (fun _ _ h => h) (isl_ne 11 (by omega)) (fun k hk => (sv_ne hk).trans (by rw [HY.out])) trivial))
        · obtain rfl := Option.some.inj ho
          clear ho
          have d3 := HPH.out 3 (by omega) (hdep ⟨3, .guard⟩ (by simp) rfl)
          replace d3 : x 15 = .bool false := d3
          have hy0 : (sv x 15 (.bool false)) = x := sv_same d3
          have HY := Lib.hid hy0
          rw [d3]
          clear hy0 d3
          clear hdep
          rw [if_neg (by simp [Region.wanted, yielded])]
          refine HK.out _ _ (SI.mk (sv (sv x 15 (.bool false)) 24 (undef)) rfl HBW.out (HPH.out.step (i := 12) (fun _ _ h => h) (isl_ne 12 (by omega)) (fun k hk => (sv_ne hk).trans (by rw [HY.out])) trivial))
        · obtain rfl := Option.some.inj ho
          clear ho
          have d3 := HPH.out 3 (by omega) (hdep ⟨3, .guard⟩ (by simp) rfl)
          replace d3 : x 15 = .bool false := d3
          have hy0 : (sv x 15 (.bool false)) = x := sv_same d3
          have HY := Lib.hid hy0
          rw [d3]
          clear hy0 d3
          clear hdep
          rw [if_neg (by simp [Region.wanted, yielded])]
          refine HK.out _ _ (SI.mk (sv (sv x 15 (.bool false)) 25 (undef)) rfl HBW.out (HPH.out.step (i := 13) (fun _ _ h => h) (isl_ne 13 (by omega)) (fun k hk => (sv_ne hk).trans (by rw [HY.out])) trivial))
        · obtain rfl := Option.some.inj ho
          clear ho
          have d3 := HPH.out 3 (by omega) (hdep ⟨3, .guard⟩ (by simp) rfl)
          replace d3 : x 15 = .bool false := d3
          have hy0 : (sv x 15 (.bool false)) = x := sv_same d3
          have HY := Lib.hid hy0
          rw [d3]
          clear hy0 d3
          clear hdep
          rw [if_neg (by simp [Region.wanted, yielded])]
          refine HK.out _ _ (SI.mk (sv (sv x 15 (.bool false)) 26 (undef)) rfl HBW.out (HPH.out.step (i := 14) (fun _ _ h => h) (isl_ne 14 (by omega)) (fun k hk => (sv_ne hk).trans (by rw [HY.out])) trivial))
        · obtain rfl := Option.some.inj ho
          clear ho
          have d3 := HPH.out 3 (by omega) (hdep ⟨3, .data⟩ (by simp) rfl)
          replace d3 : x 15 = .bool false := d3
          have hy0 : (sv x 15 (.bool false)) = x := sv_same d3
          have HY := Lib.hid hy0
          rw [d3]
          clear hy0 d3
          clear hdep
          go_simp
          refine HK.out _ _ (SI.mk (sv (sv x 15 (.bool false)) 27 (.bool false)) rfl HBW.out (HPH.out.step (i := 15) (fun _ _ h => h) (isl_ne 15 (by omega)) (fun k hk => (sv_ne hk).trans (by rw [HY.out])) rfl))
        · obtain rfl := Option.some.inj ho
          clear ho
          have d15 := HPH.out 15 (by omega) (hdep ⟨15, .data⟩ (by simp) rfl)
          replace d15 : x 27 = .bool false := d15
          have hy0 : (sv x 27 (.bool false)) = x := sv_same d15
          have HY := Lib.hid hy0
          rw [d15]
          clear hy0 d15
          clear hdep
          go_simp
          refine HK.out _ _ (SI.mk (sv (sv x 27 (.bool false)) 6 (.bool false)) rfl HBW.out (HPH.out.step (i := 16) (fun _ _ h => h) (isl_ne 16 (by omega)) (fun k hk => (sv_ne hk).trans (by rw [HY.out])) rfl))
      · intro L a' w' hall hI
        obtain ⟨x, rfl, hb, hph⟩ := hI.open
        exact HKC.out _ _ ⟨x, rfl, hph 16 (by omega) (hall 16 (by decide)), hb⟩
    · rintro _ w3 ⟨x, rfl, e6, hb⟩
      rw [e6]
      have hb0 := HB0.out
      have hbz := hb0.size
      go_wp2_with fail
      go_ret
      refine ⟨ret_bool (by rw [HANS.out]), ?_⟩
      (repeat' (first | (with_reducible assumption) | (with_reducible exact Below.refl _ _) | (with_reducible refine below_drewN ?_ _) | (with_reducible refine Below.drew ?_) | (with_reducible refine Below.alloc ?_ ?_ _) | (with_reducible refine Below.setCell ?_ ?_ _) | (with_reducible refine Below.trans ?_ (Below.mono (by assumption) ?_)) | (with_reducible exact Nat.le_refl _) | (with_reducible assumption) | omega | (simp; omega) | (simp; done)))
  · have HANS : Hid ((true && ans) = ans) := Lib.hid (Bool.true_and _)
    refine region_cut' (fun a' w' => ∃ (x : Nat → Value), a' = { tmps := #[polyE (m : Int) (.slice (some ⟨g, 0, none⟩) n cap), .int .i64 R, .int .i64 S, .pointer (some ⟨w.heap.size, 0, none⟩), .pointer (some ⟨w.heap.size + 1, 0, none⟩), .pointer (some ⟨w.heap.size + 1 + 1, 0, none⟩), x 6, .func (.func 52) #[] #[.pointer (some ⟨b, 0, none⟩)], .func (.func 44) #[] #[.pointer (some ⟨w.heap.size + 1, 0, none⟩), .pointer (some ⟨w.heap.size, 0, none⟩), .pointer (some ⟨w.heap.size + 1 + 1, 0, none⟩)], .int .i64 S, .func (.func 52) #[] #[.pointer (some ⟨b, 0, none⟩)], .func (.func 44) #[] #[.pointer (some ⟨w.heap.size + 1, 0, none⟩), .pointer (some ⟨w.heap.size, 0, none⟩), .pointer (some ⟨w.heap.size + 1 + 1, 0, none⟩)], x 12, x 13, x 14, x 15, x 16, x 17, x 18, x 19, x 20, x 21, x 22, x 23, x 24, x 25, x 26, x 27], defers := [] } ∧ x 6 = .bool ans ∧ Below W0.heap.size W0 w') ?_ ?_
    · intro KC hKC
      have HKC := Lib.hid hKC
      clear hKC
      refine region_inv2 (by kernel_rfl) (by kernel_rfl) (SI (fun x => { tmps := #[polyE (m : Int) (.slice (some ⟨g, 0, none⟩) n cap), .int .i64 R, .int .i64 S, .pointer (some ⟨w.heap.size, 0, none⟩), .pointer (some ⟨w.heap.size + 1, 0, none⟩), .pointer (some ⟨w.heap.size + 1 + 1, 0, none⟩), x 6, .func (.func 52) #[] #[.pointer (some ⟨b, 0, none⟩)], .func (.func 44) #[] #[.pointer (some ⟨w.heap.size + 1, 0, none⟩), .pointer (some ⟨w.heap.size, 0, none⟩), .pointer (some ⟨w.heap.size + 1 + 1, 0, none⟩)], .int .i64 S, .func (.func 52) #[] #[.pointer (some ⟨b, 0, none⟩)], .func (.func 44) #[] #[.pointer (some ⟨w.heap.size + 1, 0, none⟩), .pointer (some ⟨w.heap.size, 0, none⟩), .pointer (some ⟨w.heap.size + 1 + 1, 0, none⟩)], x 12, x 13, x 14, x 15, x 16, x 17, x 18, x 19, x 20, x 21, x 22, x 23, x 24, x 25, x 26, x 27], defers := [] }) W0 (IF1 m g n cap R S D b w l ans)) ?_ ?_ ?_
      · exact SI.mk (sv (fun _ => undef) 6 (.bool false)) rfl (by (repeat' (first | (with_reducible assumption) | (with_reducible exact Below.refl _ _) | (with_reducible refine below_drewN ?_ _) | (with_reducible refine Below.drew ?_) | (with_reducible refine Below.alloc ?_ ?_ _) | (with_reducible refine Below.setCell ?_ ?_ _) | (with_reducible refine Below.trans ?_ (Below.mono (by assumption) ?_)) | (with_reducible exact Nat.le_refl _) | (with_reducible assumption) | omega | (simp; omega) | (simp; done)))) (Ph.none _ _ (by decide))
      · intro L a' w' i o ho hi hdep hcl hI K hK
        have HK := Lib.hid hK
        clear hK
        have hi17 : i < 17 := by simpa using (Array.getElem?_eq_some_iff.1 ho).1
        obtain ⟨x, rfl, hb, hph⟩ := hI.open
        obtain ⟨c0, k0, k1, k2, k3, e0, f0⟩ := HKEEP.out _ hb
        have HKB := Lib.hid f0
        have HPH := Lib.hid hph
        have HBW := Lib.hid hb
        have hlo := hb.size
        clear hb hph hcl
        have hcs : i = 0 ∨ i = 1 ∨ i = 2 ∨ i = 3 ∨ i = 4 ∨ i = 5 ∨ i = 6 ∨ i = 7 ∨ i = 8 ∨ i = 9 ∨ i = 10 ∨ i = 11 ∨ i = 12 ∨ i = 13 ∨ i = 14 ∨ i = 15 ∨ i = 16 := by omega
        clear hi17
        rcases hcs with rfl | rfl | rfl | rfl | rfl | rfl | rfl | rfl | rfl | rfl | rfl | rfl | rfl | rfl | rfl | rfl | rfl
        · obtain rfl := Option.some.inj ho
          clear ho
          clear hdep
          go_simp
          refine HK.out _ _ (SI.mk (sv x 12 (.func (.func 52) #[] #[.pointer (some ⟨b, 0, none⟩)])) rfl HBW.out (HPH.out.step (i := 0) (fun _ _ h => h) (isl_ne 0 (by omega)) (fun k hk => sv_ne hk) rfl))
        · obtain rfl := Option.some.inj ho
          clear ho
          clear hdep
          go_simp
          refine HK.out _ _ (SI.mk (sv x 13 (.int .i64 R)) rfl HBW.out (HPH.out.step (i := 1) (fun _ _ h => h) (isl_ne 1 (by omega)) (fun k hk => sv_ne hk) rfl))
        · obtain rfl := Option.some.inj ho
          clear ho
          have d0 := HPH.out 0 (by omega) (hdep ⟨0, .data⟩ (by simp) rfl)
          have d1 := HPH.out 1 (by omega) (hdep ⟨1, .data⟩ (by simp) rfl)
          replace d0 : x 12 = .func (.func 52) #[] #[.pointer (some ⟨b, 0, none⟩)] := d0
          replace d1 : x 13 = .int .i64 R := d1
          have hy0 : (sv x 12 (.func (.func 52) #[] #[.pointer (some ⟨b, 0, none⟩)])) = x := sv_same d0
          have hy1 : (sv (sv x 12 (.func (.func 52) #[] #[.pointer (some ⟨b, 0, none⟩)])) 13 (.int .i64 R)) = x := by rw [hy0]; exact sv_same d1
          have HY := Lib.hid hy1
          rw [d0, d1]
          clear hy0 hy1 d0 d1
          clear hdep
          go_simp
          refine (HNC.out b _ (HKB.out)).mono ?_
          rintro e w2 ⟨rfl, hb2⟩
          go_wp2_with fail
          refine HK.out _ _ (SI.mk (sv (sv (sv x 12 (.func (.func 52) #[] #[.pointer (some ⟨b, 0, none⟩)])) 13 (.int .i64 R)) 14 (.bool true)) rfl (HBW.out.trans (hb2.mono hlo)) (HPH.out.step (i := 2) (fun _ _ h => h) (isl_ne 2 (by omega)) (fun k hk => (sv_ne hk).trans (by rw [HY.out])) rfl))
        · obtain rfl := Option.some.inj ho
          clear ho
          have d2 := HPH.out 2 (by omega) (hdep ⟨2, .data⟩ (by simp) rfl)
          replace d2 : x 14 = .bool true := d2
          have hy0 : (sv x 14 (.bool true)) = x := sv_same d2
          have HY := Lib.hid hy0
          rw [d2]
          clear hy0 d2
          clear hdep
          go_simp
          refine HK.out _ _ (SI.mk (sv (sv x 14 (.bool true)) 15 (.bool true)) rfl HBW.out (HPH.out.step (i := 3) (fun _ _ h => h) (isl_ne 3 (by omega)) (fun k hk => (sv_ne hk).trans (by rw [HY.out])) rfl))
        · obtain rfl := Option.some.inj ho
          clear ho
          have d3 := HPH.out 3 (by omega) (hdep ⟨3, .guard⟩ (by simp) rfl)
          replace d3 : x 15 = .bool true := d3
          have hy0 : (sv x 15 (.bool true)) = x := sv_same d3
          have HY := Lib.hid hy0
          rw [d3]
          clear hy0 d3
          clear hdep
          rw [if_pos (by simp [Region.wanted, yielded])]
          go_simp
          refine HK.out _ _ (SI.mk (sv (sv x 15 (.bool true)) 16 (.pointer (some ⟨w.heap.size, 0, none⟩))) rfl HBW.out (HPH.out.step (i := 4) (fun _ _ h => h) (isl_ne 4 (by omega)) (fun k hk => (sv_ne hk).trans (by rw [HY.out])) rfl))
        · obtain rfl := Option.some.inj ho
          clear ho
          have d4 := HPH.out 4 (by omega) (hdep ⟨4, .data⟩ (by simp) rfl)
          have d3 := HPH.out 3 (by omega) (hdep ⟨3, .guard⟩ (by simp) rfl)
          replace d4 : x 16 = .pointer (some ⟨w.heap.size, 0, none⟩) := d4
          replace d3 : x 15 = .bool true := d3
          have hy0 : (sv x 16 (.pointer (some ⟨w.heap.size, 0, none⟩))) = x := sv_same d4
          have hy1 : (sv (sv x 16 (.pointer (some ⟨w.heap.size, 0, none⟩))) 15 (.bool true)) = x := by rw [hy0]; exact sv_same d3
          have HY := Lib.hid hy1
          rw [d4, d3]
          clear hy0 hy1 d4 d3
          clear hdep
          rw [if_pos (by simp [Region.wanted, yielded])]
          go_simp
          refine HK.out _ _ (SI.mk (sv (sv (sv x 16 (.pointer (some ⟨w.heap.size, 0, none⟩))) 15 (.bool true)) 17 (fdE (m : Int))) rfl HBW.out (HPH.out.step (i := 5) (fun _ _ h => h) (isl_ne 5 (by omega)) (fun k hk => (sv_ne hk).trans (by rw [HY.out])) rfl))
        · obtain rfl := Option.some.inj ho
          clear ho
          have d3 := HPH.out 3 (by omega) (hdep ⟨3, .guard⟩ (by simp) rfl)
          replace d3 : x 15 = .bool true := d3
          have hy0 : (sv x 15 (.bool true)) = x := sv_same d3
          have HY := Lib.hid hy0
          rw [d3]
          clear hy0 d3
          clear hdep
          rw [if_pos (by simp [Region.wanted, yielded])]
          go_simp
          refine HK.out _ _ (SI.mk (sv (sv x 15 (.bool true)) 18 (.pointer (some ⟨w.heap.size, 0, none⟩))) rfl HBW.out (HPH.out.step (i := 6) (fun _ _ h => h) (isl_ne 6 (by omega)) (fun k hk => (sv_ne hk).trans (by rw [HY.out])) rfl))
        · obtain rfl := Option.some.inj ho
          clear ho
          have d6 := HPH.out 6 (by omega) (hdep ⟨6, .data⟩ (by simp) rfl)
          have d3 := HPH.out 3 (by omega) (hdep ⟨3, .guard⟩ (by simp) rfl)
          replace d6 : x 18 = .pointer (some ⟨w.heap.size, 0, none⟩) := d6
          replace d3 : x 15 = .bool true := d3
          have hy0 : (sv x 18 (.pointer (some ⟨w.heap.size, 0, none⟩))) = x := sv_same d6
          have hy1 : (sv (sv x 18 (.pointer (some ⟨w.heap.size, 0, none⟩))) 15 (.bool true)) = x := by rw [hy0]; exact sv_same d3
          have HY := Lib.hid hy1
          rw [d6, d3]
          clear hy0 hy1 d6 d3
          clear hdep
          rw [if_pos (by simp [Region.wanted, yielded])]
          go_simp
          refine HK.out _ _ (SI.mk (sv (sv (sv x 18 (.pointer (some ⟨w.heap.size, 0, none⟩))) 15 (.bool true)) 19 (.pointer (some ⟨w.heap.size, 0, none⟩))) rfl HBW.out (HPH.out.step (i := 7) (fun _ _ h => h) (isl_ne 7 (by omega)) (fun k hk => (sv_ne hk).trans (by rw [HY.out])) rfl))
        · obtain rfl := Option.some.inj ho
          clear ho
          have d7 := HPH.out 7 (by omega) (hdep ⟨7, .data⟩ (by simp) rfl)
          have d3 := HPH.out 3 (by omega) (hdep ⟨3, .guard⟩ (by simp) rfl)
          replace d7 : x 19 = .pointer (some ⟨w.heap.size, 0, none⟩) := d7
          replace d3 : x 15 = .bool true := d3
          have hy0 : (sv x 19 (.pointer (some ⟨w.heap.size, 0, none⟩))) = x := sv_same d7
          have hy1 : (sv (sv x 19 (.pointer (some ⟨w.heap.size, 0, none⟩))) 15 (.bool true)) = x := by rw [hy0]; exact sv_same d3
          have HY := Lib.hid hy1
          rw [d7, d3]
          clear hy0 hy1 d7 d3
          clear hdep
          rw [if_pos (by simp [Region.wanted, yielded])]
          go_simp
          refine HK.out _ _ (SI.mk (sv (sv (sv x 19 (.pointer (some ⟨w.heap.size, 0, none⟩))) 15 (.bool true)) 20 (.int .i64 m)) rfl HBW.out (HPH.out.step (i := 8) (fun _ _ h => h) (isl_ne 8 (by omega)) (fun k hk => (sv_ne hk).trans (by rw [HY.out])) rfl))
        · obtain rfl := Option.some.inj ho
          clear ho
          have d8 := HPH.out 8 (by omega) (hdep ⟨8, .data⟩ (by simp) rfl)
          have d3 := HPH.out 3 (by omega) (hdep ⟨3, .guard⟩ (by simp) rfl)
          replace d8 : x 20 = .int .i64 m := d8
          replace d3 : x 15 = .bool true := d3
          have hy0 : (sv x 20 (.int .i64 m)) = x := sv_same d8
          have hy1 : (sv (sv x 20 (.int .i64 m)) 15 (.bool true)) = x := by rw [hy0]; exact sv_same d3
          have HY := Lib.hid hy1
          rw [d8, d3]
          clear hy0 hy1 d8 d3
          clear hdep
          rw [if_pos (by simp [Region.wanted, yielded])]
          go_simp
          refine HK.out _ _ (SI.mk (sv (sv (sv x 20 (.int .i64 m)) 15 (.bool true)) 21 (.int .i64 ((m : Int) - 1))) rfl HBW.out (HPH.out.step (i := 9) (fun _ _ h => h) (isl_ne 9 (by omega)) (fun k hk => (sv_ne hk).trans (by rw [HY.out])) rfl))
        · obtain rfl := Option.some.inj ho
          clear ho
          have d3 := HPH.out 3 (by omega) (hdep ⟨3, .guard⟩ (by simp) rfl)
          replace d3 : x 15 = .bool true := d3
          have hy0 : (sv x 15 (.bool true)) = x := sv_same d3
          have HY := Lib.hid hy0
          rw [d3]
          clear hy0 d3
          clear hdep
          rw [if_pos (by simp [Region.wanted, yielded])]
          go_simp
          refine HK.out _ _ (SI.mk (sv (sv x 15 (.bool true)) 22 (.int .i64 S)) rfl HBW.out (HPH.out.step (i := 10) (fun _ _ h => h) (isl_ne 10 (by omega)) (fun k hk => (sv_ne hk).trans (by rw [HY.out])) rfl))
        · obtain rfl := Option.some.inj ho
          clear ho
          have d9 := HPH.out 9 (by omega) (hdep ⟨9, .data⟩ (by simp) rfl)
          have d10 := HPH.out 10 (by omega) (hdep ⟨10, .data⟩ (by simp) rfl)
          have d3 := HPH.out 3 (by omega) (hdep ⟨3, .guard⟩ (by simp) rfl)
          replace d9 : x 21 = .int .i64 ((m : Int) - 1) := d9
          replace d10 : x 22 = .int .i64 S := d10
          replace d3 : x 15 = .bool true := d3
          have hy0 : (sv x 21 (.int .i64 ((m : Int) - 1))) = x := sv_same d9
          have hy1 : (sv (sv x 21 (.int .i64 ((m : Int) - 1))) 22 (.int .i64 S)) = x := by rw [hy0]; exact sv_same d10
          have hy2 : (sv (sv (sv x 21 (.int .i64 ((m : Int) - 1))) 22 (.int .i64 S)) 15 (.bool true)) = x := by rw [hy1]; exact sv_same d3
          have HY := Lib.hid hy2
          rw [d9, d10, d3]
          clear hy0 hy1 hy2 d9 d10 d3
          clear hdep
          rw [if_pos (by simp [Region.wanted, yielded])]
          go_simp
          refine HK.out _ _ (SI.mk (sv (sv (sv (sv x 21 (.int .i64 ((m : Int) - 1))) 22 (.int .i64 S)) 15 (.bool true)) 23 (.int .i64 D)) rfl HBW.out (HPH.out.step (i := 11) (fun _ _ h => h) (isl_ne 11 (by omega)) (fun k hk => (sv_ne hk).trans (by rw [HY.out])) rfl))
        · obtain rfl := Option.some.inj ho
          clear ho
          have d5 := HPH.out 5 (by omega) (hdep ⟨5, .data⟩ (by simp) rfl)
          have d11 := HPH.out 11 (by omega) (hdep ⟨11, .data⟩ (by simp) rfl)
          have d3 := HPH.out 3 (by omega) (hdep ⟨3, .guard⟩ (by simp) rfl)
          replace d5 : x 17 = fdE (m : Int) := d5
          replace d11 : x 23 = .int .i64 D := d11
          replace d3 : x 15 = .bool true := d3
          have hy0 : (sv x 17 (fdE (m : Int))) = x := sv_same d5
          have hy1 : (sv (sv x 17 (fdE (m : Int))) 23 (.int .i64 D)) = x := by rw [hy0]; exact sv_same d11
          have hy2 : (sv (sv (sv x 17 (fdE (m : Int))) 23 (.int .i64 D)) 15 (.bool true)) = x := by rw [hy1]; exact sv_same d3
          have HY := Lib.hid hy2
          rw [d5, d11, d3]
          clear hy0 hy1 hy2 d5 d11 d3
          clear hdep
          rw [if_pos (by simp [Region.wanted, yielded])]
          go_simp
          refine (HR.out _).mono ?_
          rintro e w2 ⟨cs, rfl, hrv, hb2⟩
          go_wp2_with fail
          refine HK.out _ _ (SI.mk (sv (sv (sv (sv x 17 (fdE (m : Int))) 23 (.int .i64 D)) 15 (.bool true)) 24 (.agg cs)) rfl (HBW.out.trans (hb2.mono hlo)) (HPH.out.step (i := 12) (fun _ _ h => h) (isl_ne 12 (by omega)) (fun k hk => (sv_ne hk).trans (by rw [HY.out])) ⟨cs, rfl, hrv⟩))
        · obtain rfl := Option.some.inj ho
          clear ho
          have d3 := HPH.out 3 (by omega) (hdep ⟨3, .guard⟩ (by simp) rfl)
          replace d3 : x 15 = .bool true := d3
          have hy0 : (sv x 15 (.bool true)) = x := sv_same d3
          have HY := Lib.hid hy0
          rw [d3]
          clear hy0 d3
          clear hdep
          rw [if_pos (by simp [Region.wanted, yielded])]
          go_simp
          refine HK.out _ _ (SI.mk (sv (sv x 15 (.bool true)) 25 (.func (.func 44) #[] #[.pointer (some ⟨w.heap.size + 1, 0, none⟩), .pointer (some ⟨w.heap.size, 0, none⟩), .pointer (some ⟨w.heap.size + 1 + 1, 0, none⟩)])) rfl HBW.out (HPH.out.step (i := 13) (fun _ _ h => h) (isl_ne 13 (by omega)) (fun k hk => (sv_ne hk).trans (by rw [HY.out])) rfl))
        · obtain rfl := Option.some.inj ho
          clear ho
          have d12 := HPH.out 12 (by omega) (hdep ⟨12, .data⟩ (by simp) rfl)
          obtain ⟨cs, d12, hrv⟩ := d12
          have HRV := Lib.hid hrv
          clear hrv
          have d13 := HPH.out 13 (by omega) (hdep ⟨13, .data⟩ (by simp) rfl)
          have d3 := HPH.out 3 (by omega) (hdep ⟨3, .guard⟩ (by simp) rfl)
          replace d12 : x 24 = .agg cs := d12
          replace d13 : x 25 = .func (.func 44) #[] #[.pointer (some ⟨w.heap.size + 1, 0, none⟩), .pointer (some ⟨w.heap.size, 0, none⟩), .pointer (some ⟨w.heap.size + 1 + 1, 0, none⟩)] := d13
          replace d3 : x 15 = .bool true := d3
          have hy0 : (sv x 24 (.agg cs)) = x := sv_same d12
          have hy1 : (sv (sv x 24 (.agg cs)) 25 (.func (.func 44) #[] #[.pointer (some ⟨w.heap.size + 1, 0, none⟩), .pointer (some ⟨w.heap.size, 0, none⟩), .pointer (some ⟨w.heap.size + 1 + 1, 0, none⟩)])) = x := by rw [hy0]; exact sv_same d13
          have hy2 : (sv (sv (sv x 24 (.agg cs)) 25 (.func (.func 44) #[] #[.pointer (some ⟨w.heap.size + 1, 0, none⟩), .pointer (some ⟨w.heap.size, 0, none⟩), .pointer (some ⟨w.heap.size + 1 + 1, 0, none⟩)])) 15 (.bool true)) = x := by rw [hy1]; exact sv_same d3
          have HY := Lib.hid hy2
          rw [d12, d13, d3]
          clear hy0 hy1 hy2 d12 d13 d3
          clear hdep
          rw [if_pos (by simp [Region.wanted, yielded])]
          go_simp
          refine (HST.out cs _ HBW.out HRV.out).mono ?_
          rintro e w2 ⟨rfl, hb2⟩
          go_wp2_with fail
          refine HK.out _ _ (SI.mk (sv (sv (sv (sv x 24 (.agg cs)) 25 (.func (.func 44) #[] #[.pointer (some ⟨w.heap.size + 1, 0, none⟩), .pointer (some ⟨w.heap.size, 0, none⟩), .pointer (some ⟨w.heap.size + 1 + 1, 0, none⟩)])) 15 (.bool true)) 26 (.bool ans)) rfl (HBW.out.trans (hb2.mono hlo)) (HPH.out.step (i := 14) (fun _ _ h => h) (isl_ne 14 (by omega)) (fun k hk => (sv_ne hk).trans (by rw [HY.out])) rfl))
        · obtain rfl := Option.some.inj ho
          clear ho
          have d3 := HPH.out 3 (by omega) (hdep ⟨3, .data⟩ (by simp) rfl)
          have d14 := HPH.out 14 (by omega) (hdep ⟨14, .data⟩ (by simp) rfl)
          replace d3 : x 15 = .bool true := d3
          replace d14 : x 26 = .bool ans := d14
          have hy0 : (sv x 15 (.bool true)) = x := sv_same d3
          have hy1 : (sv (sv x 15 (.bool true)) 26 (.bool ans)) = x := by rw [hy0]; exact sv_same d14
          have HY := Lib.hid hy1
          rw [d3, d14]
          clear hy0 hy1 d3 d14
          clear hdep
          go_simp
          refine HK.out _ _ (SI.mk (sv (sv (sv x 15 (.bool true)) 26 (.bool ans)) 27 (.bool ans)) rfl HBW.out (HPH.out.step (i := 15) (fun _ _ h => h) (isl_ne 15 (by omega)) (fun k hk => (sv_ne hk).trans (by rw [HY.out])) rfl))
        · obtain rfl := Option.some.inj ho
          clear ho
          have d15 := HPH.out 15 (by omega) (hdep ⟨15, .data⟩ (by simp) rfl)
          replace d15 : x 27 = .bool ans := d15
          have hy0 : (sv x 27 (.bool ans)) = x := sv_same d15
          have HY := Lib.hid hy0
          rw [d15]
          clear hy0 d15
          clear hdep
          go_simp
          refine HK.out _ _ (SI.mk (sv (sv x 27 (.bool ans)) 6 (.bool ans)) rfl HBW.out (HPH.out.step (i := 16) (fun _ _ h => h) (isl_ne 16 (by omega)) (fun k hk => (sv_ne hk).trans (by rw [HY.out])) rfl))
      · intro L a' w' hall hI
        obtain ⟨x, rfl, hb, hph⟩ := hI.open
        exact HKC.out _ _ ⟨x, rfl, hph 16 (by omega) (hall 16 (by decide)), hb⟩
    · rintro _ w3 ⟨x, rfl, e6, hb⟩
      rw [e6]
      have hb0 := HB0.out
      have hbz := hb0.size
      go_wp2_with fail
      go_ret
      refine ⟨ret_bool (by rw [HANS.out]), ?_⟩
      (repeat' (first | (with_reducible assumption) | (with_reducible exact Below.refl _ _) | (with_reducible refine below_drewN ?_ _) | (with_reducible refine Below.drew ?_) | (with_reducible refine Below.alloc ?_ ?_ _) | (with_reducible refine Below.setCell ?_ ?_ _) | (with_reducible refine Below.trans ?_ (Below.mono (by assumption) ?_)) | (with_reducible exact Nat.le_refl _) | (with_reducible assumption) | omega | (simp; omega) | (simp; done)))
end Go.Proofs.Ytkjpkdecoeoghaa
