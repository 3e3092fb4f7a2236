/- CountRuns, of both, by contracts; the walk of its law. -/
import Derived.Test.YtpjlolnnbbgikaaTB
import Derived.Test.YtpjlolnnbbgikaaTE
import Derived.Test.YtpjlolnnbbgikaaKM
import Derived.Test.YtpjlolnnbbgikaaNG
import Derived.Deep.RegionHeld3
namespace Go.Proofs.Ytpjlolnnbbgikaa
open Go.RowKit
theorem cellsK {w : World} {b : Nat} {cs : Array Value} {T : TypeId} (h : w.heap[b]? = some (.cells cs T (0, 0))) (k : Nat) : w.cell? ⟨b, k, none⟩ = cs[k]? := cell_of_row w b k _ _ _ h
/-- Does a run begin here? -/
def rn (i j x y : Int) : Int := if x = i ∧ y = j then 1 else 0
theorem rn_bd (i j x y : Int) : -1 ≤ rn i j x y ∧ rn i j x y ≤ 1 := by unfold rn; split <;> omega
theorem region_cutK {P : Program} {c : Code} {Q : Exit → Act → World → Prop} {a : Act} {w : World} (R : Act → World → Prop) (h0 : ∀ K : Act → World → Prop, (∀ a' w', R a' w' → K a' w') → c.wp P (Exit.then K Q) a w) (h : ∀ a' w', R a' w' → Q .normal a' w') : c.wp P Q a w :=
  Code.wp_mono (fun e a' w' hr => by
    cases e with
    | normal => exact h a' w' hr
    | _ => exact hr) (h0 (fun a' w' => R a' w') fun _ _ h => h)
def rsl (i : Nat) : Nat := i + 5
theorem rsl_ne (i : Nat) (_ : i < 20) : ∀ j, j < 20 → j ≠ i → rsl j ≠ rsl i := fun j _ h => by unfold rsl; omega
/-- The state of a region that writes nothing. -/
def RI (A : (Nat → Value) → Act) (W0 : World) (F : Nat → Value → Prop) (L : Array Bool) (a : Act) (w : World) : Prop := ∃ x, a = A x ∧ Below W0.heap.size W0 w ∧ Ph 20 rsl (fun j v _ => F j v) L x w
theorem RI.open {A : (Nat → Value) → Act} {W0 : World} {F : Nat → Value → Prop} {L : Array Bool} {a : Act} {w : World} (h : RI A W0 F L a w) : ∃ x, a = A x ∧ Below W0.heap.size W0 w ∧ Ph 20 rsl (fun j v _ => F j v) L x w := h
theorem RI.mk {A : (Nat → Value) → Act} {W0 : World} {F : Nat → Value → Prop} {L : Array Bool} {a : Act} {w : World} (x : Nat → Value) (e : a = A x) (hb : Below W0.heap.size W0 w) (h : Ph 20 rsl (fun j v _ => F j v) L x w) : RI A W0 F L a w := ⟨x, e, hb, h⟩
set_option linter.unusedVariables false in
def RF0 (m : Nat) (a i j c : Int) (A : Array Value) (w : World) : Nat → Value → Prop
  | 0, v => v = .pointer (some ⟨w.heap.size, 2, none⟩)
  | 1, v => v = .func (.func 48) #[.agg A] #[]
  | 2, v => v = elE (m : Int) a
  | 3, v => v = .int .i64 c
  | 4, v => v = .pointer (some ⟨w.heap.size, 0, none⟩)
  | 5, v => v = .int .i64 i
  | 6, v => v = .bool false
  | 7, v => v = .bool false
  | 19, v => v = .bool false
  | _, _ => True
set_option maxRecDepth 100000 in
set_option maxHeartbeats 16000000 in
/-- impl.runs.amountAt, where the first character is another. -/
theorem amountR_no (m : Nat) (a i j c : Int) (A : Array Value) (w : World) (hx : ¬ c = i)
    (H1 : ∀ w', Calls Try.prog 48 #[.agg A, elE (m : Int) a] w' fun e w'' => e = .returned (.int .i64 c) ∧ Below w'.heap.size w' w'') :
    Calls Try.prog 110 #[.agg #[.int .i64 i, .int .i64 j, .func (.func 48) #[.agg A] #[]], elE (m : Int) a] w fun e w' => e = .returned (.int .i64 0) ∧ Below w.heap.size w w' := by
  have hb : (c == i) = false := by simpa using hx
  have hd : decide (c = i) = false := by simpa using hx
  have HO1 := Lib.hid H1
  clear H1 hx
  go_enter Try.func110, Try.ntmps110
  go_wp2_with fail
  have HTW := Lib.hid (two w (.cells #[.int .i64 i, .int .i64 j, .func (.func 48) #[.agg A] #[]] 81) (eblk (m : Int) a))
  obtain ⟨W0, hW0⟩ : ∃ W0, W0 = ((w.alloc (.cells #[.int .i64 i, .int .i64 j, .func (.func 48) #[.agg A] #[]] 81)).alloc (eblk (m : Int) a)) := ⟨_, rfl⟩
  rw [← hW0]
  have hzW : W0.heap.size = w.heap.size + 2 := by rw [hW0]; simp
  have HB0 : Hid (Below w.heap.size w W0) := Lib.hid (by rw [hW0]; (repeat' (first | (with_reducible assumption) | (with_reducible exact Below.refl _ _) | (with_reducible refine below_drewN ?_ _) | (with_reducible refine Below.drew ?_) | (with_reducible refine Below.alloc ?_ ?_ _) | (with_reducible refine Below.setCell ?_ ?_ _) | (with_reducible refine Below.trans ?_ (Below.mono (by assumption) ?_)) | (with_reducible exact Nat.le_refl _) | (with_reducible assumption) | omega | (simp; omega) | (simp; done))))
  rw [← hW0] at HTW
  have HKEEP : Hid (∀ w', Below W0.heap.size W0 w' → w'.cell? ⟨w.heap.size, 0, none⟩ = some (.int .i64 i) ∧ w'.cell? ⟨w.heap.size, 1, none⟩ = some (.int .i64 j) ∧ w'.cell? ⟨w.heap.size, 2, none⟩ = some (.func (.func 48) #[.agg A] #[]) ∧ w'.cell? ⟨w.heap.size + 1, 0, none⟩ = some (.int .i64 m) ∧ w'.cell? ⟨w.heap.size + 1, 1, none⟩ = some (.int .i64 (pr m)) ∧ w'.cell? ⟨w.heap.size + 1, 2, none⟩ = some (.int .i64 (pl m)) ∧ w'.cell? ⟨w.heap.size + 1, 3, none⟩ = some (.int .i64 (dg m a 0)) ∧ w'.cell? ⟨w.heap.size + 1, 4, none⟩ = some (.int .i64 (dg m a 1)) ∧ w'.cell? ⟨w.heap.size + 1, 5, none⟩ = some (.int .i64 (dg m a 2)) ∧ w'.cell? ⟨w.heap.size + 1, 6, none⟩ = some (.int .i64 (dg m a 3))) := Lib.hid fun w' hb => by
    have h1 := cellsK ((hb.block w.heap.size (by omega)).trans HTW.out.1)
    obtain ⟨y0, y1, y2, y3, y4, y5, y6, _⟩ := seven ((hb.block (w.heap.size + 1) (by omega)).trans HTW.out.2)
    exact ⟨h1 0, h1 1, h1 2, y0, y1, y2, y3, y4, y5, y6⟩
  clear hW0
  refine region_cutK (fun a' w' => ∃ (x : Nat → Value), a' = { tmps := #[.agg #[.int .i64 i, .int .i64 j, .func (.func 48) #[.agg A] #[]], elE (m : Int) a, .pointer (some ⟨w.heap.size, 0, none⟩), .pointer (some ⟨w.heap.size + 1, 0, none⟩), .int .i64 0, x 5, x 6, x 7, x 8, x 9, x 10, x 11, x 12, x 13, x 14, x 15, x 16, x 17, x 18, x 19, x 20, x 21, x 22, x 23, x 24], defers := [] } ∧ x 24 = .bool false ∧ Below W0.heap.size W0 w') ?_ ?_
  · intro KC hKC
    have HKC := Lib.hid hKC
    clear hKC
    refine region_inv2 (by kernel_rfl) (by kernel_rfl) (RI (fun x => { tmps := #[.agg #[.int .i64 i, .int .i64 j, .func (.func 48) #[.agg A] #[]], elE (m : Int) a, .pointer (some ⟨w.heap.size, 0, none⟩), .pointer (some ⟨w.heap.size + 1, 0, none⟩), .int .i64 0, x 5, x 6, x 7, x 8, x 9, x 10, x 11, x 12, x 13, x 14, x 15, x 16, x 17, x 18, x 19, x 20, x 21, x 22, x 23, x 24], defers := [] }) W0 (RF0 m a i j c A w)) ?_ ?_ ?_
    · exact RI.mk (fun _ => undef) rfl (by (repeat' (first | (with_reducible assumption) | (with_reducible exact Below.refl _ _) | (with_reducible refine below_drewN ?_ _) | (with_reducible refine Below.drew ?_) | (with_reducible refine Below.alloc ?_ ?_ _) | (with_reducible refine Below.setCell ?_ ?_ _) | (with_reducible refine Below.trans ?_ (Below.mono (by assumption) ?_)) | (with_reducible exact Nat.le_refl _) | (with_reducible assumption) | omega | (simp; omega) | (simp; done)))) (Ph.none _ _ (by decide))
    · intro L a' w' k o ho hi hdep hcl hI K hK
      have HK := Lib.hid hK
      clear hK
      have hi20 : k < 20 := by simpa using (Array.getElem?_eq_some_iff.1 ho).1
      obtain ⟨x, rfl, hb, hph⟩ := hI.open
      obtain ⟨z0, z1, z2, z3, z4, z5, z6, z7, z8, z9⟩ := HKEEP.out _ hb
      have HPH := Lib.hid hph
      have HBW := Lib.hid hb
      have hlo := hb.size
      clear hb hph hcl
      have hcs : k = 0 ∨ k = 1 ∨ k = 2 ∨ k = 3 ∨ k = 4 ∨ k = 5 ∨ k = 6 ∨ k = 7 ∨ k = 8 ∨ k = 9 ∨ k = 10 ∨ k = 11 ∨ k = 12 ∨ k = 13 ∨ k = 14 ∨ k = 15 ∨ k = 16 ∨ k = 17 ∨ k = 18 ∨ k = 19 := by omega
      clear hi20
      rcases hcs with rfl | rfl | rfl | rfl | rfl | rfl | rfl | rfl | rfl | rfl | rfl | rfl | rfl | rfl | rfl | rfl | rfl | rfl | rfl | rfl
      · obtain rfl := Option.some.inj ho
        clear ho
        clear hdep
        go_simp
        refine HK.out _ _ (RI.mk (sv x 5 (.pointer (some ⟨w.heap.size, 2, none⟩))) rfl HBW.out (HPH.out.step (i := 0) (fun _ _ h => h) (rsl_ne 0 (by omega)) (fun k hk => sv_ne hk) rfl))
      · obtain rfl := Option.some.inj ho
        clear ho
        have d0 := HPH.out 0 (by omega) (hdep ⟨0, .data⟩ (by simp) rfl)
        replace d0 : x 5 = .pointer (some ⟨w.heap.size, 2, none⟩) := d0
        have hy0 : (sv x 5 (.pointer (some ⟨w.heap.size, 2, none⟩))) = x := sv_same d0
        have HY := Lib.hid hy0
        rw [d0]
        clear hy0 d0
        clear hdep
        go_simp
        refine HK.out _ _ (RI.mk (sv (sv x 5 (.pointer (some ⟨w.heap.size, 2, none⟩))) 6 (.func (.func 48) #[.agg A] #[])) rfl HBW.out (HPH.out.step (i := 1) (fun _ _ h => h) (rsl_ne 1 (by omega)) (fun k hk => (sv_ne hk).trans (by rw [HY.out])) rfl))
      · obtain rfl := Option.some.inj ho
        clear ho
        clear hdep
        go_simp
        refine HK.out _ _ (RI.mk (sv x 7 (elE (m : Int) a)) rfl HBW.out (HPH.out.step (i := 2) (fun _ _ h => h) (rsl_ne 2 (by omega)) (fun k hk => sv_ne hk) rfl))
      · obtain rfl := Option.some.inj ho
        clear ho
        have d1 := HPH.out 1 (by omega) (hdep ⟨1, .data⟩ (by simp) rfl)
        have d2 := HPH.out 2 (by omega) (hdep ⟨2, .data⟩ (by simp) rfl)
        replace d1 : x 6 = .func (.func 48) #[.agg A] #[] := d1
        replace d2 : x 7 = elE (m : Int) a := d2
        have hy0 : (sv x 6 (.func (.func 48) #[.agg A] #[])) = x := sv_same d1
        have hy1 : (sv (sv x 6 (.func (.func 48) #[.agg A] #[])) 7 (elE (m : Int) a)) = x := by rw [hy0]; exact sv_same d2
        have HY := Lib.hid hy1
        rw [d1, d2]
        clear hy0 hy1 d1 d2
        clear hdep
        go_simp
        refine (HO1.out _).mono ?_
        rintro e w2 ⟨rfl, hb2⟩
        go_wp2_with fail
        refine HK.out _ _ (RI.mk (sv (sv (sv x 6 (.func (.func 48) #[.agg A] #[])) 7 (elE (m : Int) a)) 8 (.int .i64 c)) rfl (HBW.out.trans (hb2.mono hlo)) (HPH.out.step (i := 3) (fun _ _ h => h) (rsl_ne 3 (by omega)) (fun k hk => (sv_ne hk).trans (by rw [HY.out])) rfl))
      · obtain rfl := Option.some.inj ho
        clear ho
        clear hdep
        go_simp
        refine HK.out _ _ (RI.mk (sv x 9 (.pointer (some ⟨w.heap.size, 0, none⟩))) rfl HBW.out (HPH.out.step (i := 4) (fun _ _ h => h) (rsl_ne 4 (by omega)) (fun k hk => sv_ne hk) rfl))
      · obtain rfl := Option.some.inj ho
        clear ho
        have d4 := HPH.out 4 (by omega) (hdep ⟨4, .data⟩ (by simp) rfl)
        replace d4 : x 9 = .pointer (some ⟨w.heap.size, 0, none⟩) := d4
        have hy0 : (sv x 9 (.pointer (some ⟨w.heap.size, 0, none⟩))) = x := sv_same d4
        have HY := Lib.hid hy0
        rw [d4]
        clear hy0 d4
        clear hdep
        go_simp
        refine HK.out _ _ (RI.mk (sv (sv x 9 (.pointer (some ⟨w.heap.size, 0, none⟩))) 10 (.int .i64 i)) rfl HBW.out (HPH.out.step (i := 5) (fun _ _ h => h) (rsl_ne 5 (by omega)) (fun k hk => (sv_ne hk).trans (by rw [HY.out])) rfl))
      · obtain rfl := Option.some.inj ho
        clear ho
        have d3 := HPH.out 3 (by omega) (hdep ⟨3, .data⟩ (by simp) rfl)
        have d5 := HPH.out 5 (by omega) (hdep ⟨5, .data⟩ (by simp) rfl)
        replace d3 : x 8 = .int .i64 c := d3
        replace d5 : x 10 = .int .i64 i := d5
        have hy0 : (sv x 8 (.int .i64 c)) = x := sv_same d3
        have hy1 : (sv (sv x 8 (.int .i64 c)) 10 (.int .i64 i)) = x := by rw [hy0]; exact sv_same d5
        have HY := Lib.hid hy1
        rw [d3, d5]
        clear hy0 hy1 d3 d5
        clear hdep
        go_simp
        refine HK.out _ _ (RI.mk (sv (sv (sv x 8 (.int .i64 c)) 10 (.int .i64 i)) 11 (.bool false)) rfl HBW.out (HPH.out.step (i := 6) (fun _ _ h => h) (rsl_ne 6 (by omega)) (fun k hk => (sv_ne hk).trans (by rw [HY.out])) rfl))
      · obtain rfl := Option.some.inj ho
        clear ho
        have d6 := HPH.out 6 (by omega) (hdep ⟨6, .data⟩ (by simp) rfl)
        replace d6 : x 11 = .bool false := d6
        have hy0 : (sv x 11 (.bool false)) = x := sv_same d6
        have HY := Lib.hid hy0
        rw [d6]
        clear hy0 d6
        clear hdep
        go_simp
        refine HK.out _ _ (RI.mk (sv (sv x 11 (.bool false)) 12 (.bool false)) rfl HBW.out (HPH.out.step (i := 7) (fun _ _ h => h) (rsl_ne 7 (by omega)) (fun k hk => (sv_ne hk).trans (by rw [HY.out])) rfl))
      · obtain rfl := Option.some.inj ho
        clear ho
        have d7 := HPH.out 7 (by omega) (hdep ⟨7, .guard⟩ (by simp) rfl)
        replace d7 : x 12 = .bool false := d7
        have hy0 : (sv x 12 (.bool false)) = x := sv_same d7
        have HY := Lib.hid hy0
        rw [d7]
        clear hy0 d7
        clear hdep
        rw [if_neg (by simp [Region.wanted, yielded])]
        refine HK.out _ _ (RI.mk (sv (sv x 12 (.bool false)) 13 (undef)) rfl HBW.out (HPH.out.step (i := 8) (fun _ _ h => h) (rsl_ne 8 (by omega)) (fun k hk => (sv_ne hk).trans (by rw [HY.out])) trivial))
      · obtain rfl := Option.some.inj ho
        clear ho
        have d7 := HPH.out 7 (by omega) (hdep ⟨7, .guard⟩ (by simp) rfl)
        replace d7 : x 12 = .bool false := d7
        have hy0 : (sv x 12 (.bool false)) = x := sv_same d7
        have HY := Lib.hid hy0
        rw [d7]
        clear hy0 d7
        clear hdep
        rw [if_neg (by simp [Region.wanted, yielded])]
        refine HK.out _ _ (RI.mk (sv (sv x 12 (.bool false)) 14 (undef)) rfl HBW.out (HPH.out.step (i := 9) (fun _ _ h => h) (rsl_ne 9 (by omega)) (fun k hk => (sv_ne hk).trans (by rw [HY.out])) trivial))
      · obtain rfl := Option.some.inj ho
        clear ho
        have d7 := HPH.out 7 (by omega) (hdep ⟨7, .guard⟩ (by simp) rfl)
        replace d7 : x 12 = .bool false := d7
        have hy0 : (sv x 12 (.bool false)) = x := sv_same d7
        have HY := Lib.hid hy0
        rw [d7]
        clear hy0 d7
        clear hdep
        rw [if_neg (by simp [Region.wanted, yielded])]
        refine HK.out _ _ (RI.mk (sv (sv x 12 (.bool false)) 15 (undef)) rfl HBW.out (HPH.out.step (i := 10) (fun _ _ h => h) (rsl_ne 10 (by omega)) (fun k hk => (sv_ne hk).trans (by rw [HY.out])) trivial))
      · obtain rfl := Option.some.inj ho
        clear ho
        have d7 := HPH.out 7 (by omega) (hdep ⟨7, .guard⟩ (by simp) rfl)
        replace d7 : x 12 = .bool false := d7
        have hy0 : (sv x 12 (.bool false)) = x := sv_same d7
        have HY := Lib.hid hy0
        rw [d7]
        clear hy0 d7
        clear hdep
        rw [if_neg (by simp [Region.wanted, yielded])]
        refine HK.out _ _ (RI.mk (sv (sv x 12 (.bool false)) 16 (undef)) rfl HBW.out (HPH.out.step (i := 11) (fun _ _ h => h) (rsl_ne 11 (by omega)) (fun k hk => (sv_ne hk).trans (by rw [HY.out])) trivial))
      · obtain rfl := Option.some.inj ho
        clear ho
        have d7 := HPH.out 7 (by omega) (hdep ⟨7, .guard⟩ (by simp) rfl)
        replace d7 : x 12 = .bool false := d7
        have hy0 : (sv x 12 (.bool false)) = x := sv_same d7
        have HY := Lib.hid hy0
        rw [d7]
        clear hy0 d7
        clear hdep
        rw [if_neg (by simp [Region.wanted, yielded])]
        refine HK.out _ _ (RI.mk (sv (sv x 12 (.bool false)) 17 (undef)) rfl HBW.out (HPH.out.step (i := 12) (fun _ _ h => h) (rsl_ne 12 (by omega)) (fun k hk => (sv_ne hk).trans (by rw [HY.out])) trivial))
      · obtain rfl := Option.some.inj ho
        clear ho
        have d7 := HPH.out 7 (by omega) (hdep ⟨7, .guard⟩ (by simp) rfl)
        replace d7 : x 12 = .bool false := d7
        have hy0 : (sv x 12 (.bool false)) = x := sv_same d7
        have HY := Lib.hid hy0
        rw [d7]
        clear hy0 d7
        clear hdep
        rw [if_neg (by simp [Region.wanted, yielded])]
        refine HK.out _ _ (RI.mk (sv (sv x 12 (.bool false)) 18 (undef)) rfl HBW.out (HPH.out.step (i := 13) (fun _ _ h => h) (rsl_ne 13 (by omega)) (fun k hk => (sv_ne hk).trans (by rw [HY.out])) trivial))
      · obtain rfl := Option.some.inj ho
        clear ho
        have d7 := HPH.out 7 (by omega) (hdep ⟨7, .guard⟩ (by simp) rfl)
        replace d7 : x 12 = .bool false := d7
        have hy0 : (sv x 12 (.bool false)) = x := sv_same d7
        have HY := Lib.hid hy0
        rw [d7]
        clear hy0 d7
        clear hdep
        rw [if_neg (by simp [Region.wanted, yielded])]
        refine HK.out _ _ (RI.mk (sv (sv x 12 (.bool false)) 19 (undef)) rfl HBW.out (HPH.out.step (i := 14) (fun _ _ h => h) (rsl_ne 14 (by omega)) (fun k hk => (sv_ne hk).trans (by rw [HY.out])) trivial))
      · obtain rfl := Option.some.inj ho
        clear ho
        have d7 := HPH.out 7 (by omega) (hdep ⟨7, .guard⟩ (by simp) rfl)
        replace d7 : x 12 = .bool false := d7
        have hy0 : (sv x 12 (.bool false)) = x := sv_same d7
        have HY := Lib.hid hy0
        rw [d7]
        clear hy0 d7
        clear hdep
        rw [if_neg (by simp [Region.wanted, yielded])]
        refine HK.out _ _ (RI.mk (sv (sv x 12 (.bool false)) 20 (undef)) rfl HBW.out (HPH.out.step (i := 15) (fun _ _ h => h) (rsl_ne 15 (by omega)) (fun k hk => (sv_ne hk).trans (by rw [HY.out])) trivial))
      · obtain rfl := Option.some.inj ho
        clear ho
        have d7 := HPH.out 7 (by omega) (hdep ⟨7, .guard⟩ (by simp) rfl)
        replace d7 : x 12 = .bool false := d7
        have hy0 : (sv x 12 (.bool false)) = x := sv_same d7
        have HY := Lib.hid hy0
        rw [d7]
        clear hy0 d7
        clear hdep
        rw [if_neg (by simp [Region.wanted, yielded])]
        refine HK.out _ _ (RI.mk (sv (sv x 12 (.bool false)) 21 (undef)) rfl HBW.out (HPH.out.step (i := 16) (fun _ _ h => h) (rsl_ne 16 (by omega)) (fun k hk => (sv_ne hk).trans (by rw [HY.out])) trivial))
      · obtain rfl := Option.some.inj ho
        clear ho
        have d7 := HPH.out 7 (by omega) (hdep ⟨7, .guard⟩ (by simp) rfl)
        replace d7 : x 12 = .bool false := d7
        have hy0 : (sv x 12 (.bool false)) = x := sv_same d7
        have HY := Lib.hid hy0
        rw [d7]
        clear hy0 d7
        clear hdep
        rw [if_neg (by simp [Region.wanted, yielded])]
        refine HK.out _ _ (RI.mk (sv (sv x 12 (.bool false)) 22 (undef)) rfl HBW.out (HPH.out.step (i := 17) (fun _ _ h => h) (rsl_ne 17 (by omega)) (fun k hk => (sv_ne hk).trans (by rw [HY.out])) trivial))
      · obtain rfl := Option.some.inj ho
        clear ho
        have d7 := HPH.out 7 (by omega) (hdep ⟨7, .guard⟩ (by simp) rfl)
        replace d7 : x 12 = .bool false := d7
        have hy0 : (sv x 12 (.bool false)) = x := sv_same d7
        have HY := Lib.hid hy0
        rw [d7]
        clear hy0 d7
        clear hdep
        rw [if_neg (by simp [Region.wanted, yielded])]
        refine HK.out _ _ (RI.mk (sv (sv x 12 (.bool false)) 23 (undef)) rfl HBW.out (HPH.out.step (i := 18) (fun _ _ h => h) (rsl_ne 18 (by omega)) (fun k hk => (sv_ne hk).trans (by rw [HY.out])) trivial))
      · obtain rfl := Option.some.inj ho
        clear ho
        have d7 := HPH.out 7 (by omega) (hdep ⟨7, .data⟩ (by simp) rfl)
        replace d7 : x 12 = .bool false := d7
        have hy0 : (sv x 12 (.bool false)) = x := sv_same d7
        have HY := Lib.hid hy0
        rw [d7]
        clear hy0 d7
        clear hdep
        go_simp
        refine HK.out _ _ (RI.mk (sv (sv x 12 (.bool false)) 24 (.bool false)) rfl HBW.out (HPH.out.step (i := 19) (fun _ _ h => h) (rsl_ne 19 (by omega)) (fun k hk => (sv_ne hk).trans (by rw [HY.out])) rfl))
    · intro L a' w' hall hI
      obtain ⟨x, rfl, hb, hph⟩ := hI.open
      exact HKC.out _ _ ⟨x, rfl, hph 19 (by omega) (hall 19 (by decide)), hb⟩
  · rintro _ w3 ⟨x, rfl, e6, hb⟩
    rw [e6]
    have hb0 := HB0.out
    have hbz := hb0.size
    go_wp2_with fail
    go_ret
    exact ⟨rfl, by (repeat' (first | (with_reducible assumption) | (with_reducible exact Below.refl _ _) | (with_reducible refine below_drewN ?_ _) | (with_reducible refine Below.drew ?_) | (with_reducible refine Below.alloc ?_ ?_ _) | (with_reducible refine Below.setCell ?_ ?_ _) | (with_reducible refine Below.trans ?_ (Below.mono (by assumption) ?_)) | (with_reducible exact Nat.le_refl _) | (with_reducible assumption) | omega | (simp; omega) | (simp; done)))⟩
set_option maxRecDepth 100000 in
set_option maxHeartbeats 4000000 in
/-- impl.runs.amountAt. -/
theorem amountR_yy (m : Nat) (a s i j x y : Int) (A : Array Value) (w : World) (hx : x = i) (hy : y = j)
    (HO : ∀ w', Calls Try.prog 78 #[fdE (m : Int)] w' fun e w'' => e = .returned (elE (m : Int) 1) ∧ Below w'.heap.size w' w'')
    (HP : ∀ w', Calls Try.prog 52 #[elE (m : Int) a, elE (m : Int) 1] w' fun e w'' => e = .returned (elE (m : Int) s) ∧ Below w'.heap.size w' w'')
    (H1 : ∀ w', Calls Try.prog 48 #[.agg A, elE (m : Int) a] w' fun e w'' => e = .returned (.int .i64 x) ∧ Below w'.heap.size w' w'')
    (H2 : ∀ w', Calls Try.prog 48 #[.agg A, elE (m : Int) s] w' fun e w'' => e = .returned (.int .i64 y) ∧ Below w'.heap.size w' w'') :
    Calls Try.prog 110 #[.agg #[.int .i64 i, .int .i64 j, .func (.func 48) #[.agg A] #[]], elE (m : Int) a] w fun e w' => e = .returned (.int .i64 1) ∧ Below w.heap.size w w' := by
  subst hx
  subst hy
  have HOO := Lib.hid HO
  have HPP := Lib.hid HP
  have HO1 := Lib.hid H1
  have HO2 := Lib.hid H2
  clear HO HP H1 H2
  go_enter Try.func110, Try.ntmps110
  go_wp2_with fail
  have HTW := Lib.hid (two w (.cells #[.int .i64 x, .int .i64 y, .func (.func 48) #[.agg A] #[]] 81) (eblk (m : Int) a))
  have HKEEP : Hid (∀ w', Below (w.heap.size + 2) ((w.alloc (.cells #[.int .i64 x, .int .i64 y, .func (.func 48) #[.agg A] #[]] 81)).alloc (eblk (m : Int) a)) w' → w'.cell? ⟨w.heap.size, 0, none⟩ = some (.int .i64 x) ∧ w'.cell? ⟨w.heap.size, 1, none⟩ = some (.int .i64 y) ∧ w'.cell? ⟨w.heap.size, 2, none⟩ = some (.func (.func 48) #[.agg A] #[]) ∧ w'.cell? ⟨w.heap.size + 1, 0, none⟩ = some (.int .i64 m) ∧ w'.cell? ⟨w.heap.size + 1, 1, none⟩ = some (.int .i64 (pr m)) ∧ w'.cell? ⟨w.heap.size + 1, 2, none⟩ = some (.int .i64 (pl m)) ∧ w'.cell? ⟨w.heap.size + 1, 3, none⟩ = some (.int .i64 (dg m a 0)) ∧ w'.cell? ⟨w.heap.size + 1, 4, none⟩ = some (.int .i64 (dg m a 1)) ∧ w'.cell? ⟨w.heap.size + 1, 5, none⟩ = some (.int .i64 (dg m a 2)) ∧ w'.cell? ⟨w.heap.size + 1, 6, none⟩ = some (.int .i64 (dg m a 3))) := Lib.hid fun w' hb => by
    have h1 := cellsK ((hb.block w.heap.size (by omega)).trans HTW.out.1)
    obtain ⟨y0, y1, y2, y3, y4, y5, y6, _⟩ := seven ((hb.block (w.heap.size + 1) (by omega)).trans HTW.out.2)
    exact ⟨h1 0, h1 1, h1 2, y0, y1, y2, y3, y4, y5, y6⟩
  go_region_held3 (fun w' => w'.cell? ⟨w.heap.size, 0, none⟩ = some (.int .i64 x) ∧ w'.cell? ⟨w.heap.size, 1, none⟩ = some (.int .i64 y) ∧ w'.cell? ⟨w.heap.size, 2, none⟩ = some (.func (.func 48) #[.agg A] #[]) ∧ w'.cell? ⟨w.heap.size + 1, 0, none⟩ = some (.int .i64 m) ∧ w'.cell? ⟨w.heap.size + 1, 1, none⟩ = some (.int .i64 (pr m)) ∧ w'.cell? ⟨w.heap.size + 1, 2, none⟩ = some (.int .i64 (pl m)) ∧ w'.cell? ⟨w.heap.size + 1, 3, none⟩ = some (.int .i64 (dg m a 0)) ∧ w'.cell? ⟨w.heap.size + 1, 4, none⟩ = some (.int .i64 (dg m a 1)) ∧ w'.cell? ⟨w.heap.size + 1, 5, none⟩ = some (.int .i64 (dg m a 2)) ∧ w'.cell? ⟨w.heap.size + 1, 6, none⟩ = some (.int .i64 (dg m a 3)))
    (exact HKEEP.out _ (by (try have hb3 := HB3.out); (try have hb4 := HB4.out); (try have hb5 := HB5.out); (try have hb6 := HB6.out); (repeat' (first | (with_reducible assumption) | (with_reducible exact Below.refl _ _) | (with_reducible refine below_drewN ?_ _) | (with_reducible refine Below.drew ?_) | (with_reducible refine Below.alloc ?_ ?_ _) | (with_reducible refine Below.setCell ?_ ?_ _) | (with_reducible refine Below.trans ?_ (Below.mono (by assumption) ?_)) | (with_reducible exact Nat.le_refl _) | (with_reducible assumption) | omega | (simp; omega) | (simp; done)))))
    (first
    | (go_at_call_of 48 (dg (m : Int) a 0); refine (HO1.out _).mono ?_; rintro e w3 ⟨rfl, hb3⟩; obtain ⟨hc3, hf3⟩ := bcell hb3; (try simp only [World.size_drew] at hc3 hf3); have hz3 := hb3.size; (try simp at hz3); have HB3 := Lib.hid hb3; clear hb3)
    | (go_at_call 78; refine (HOO.out _).mono ?_; rintro e w4 ⟨rfl, hb4⟩; obtain ⟨hc4, hf4⟩ := bcell hb4; (try simp only [World.size_drew] at hc4 hf4); have hz4 := hb4.size; (try simp at hz4); have HB4 := Lib.hid hb4; clear hb4)
    | (go_at_call 52; refine (HPP.out _).mono ?_; rintro e w5 ⟨rfl, hb5⟩; obtain ⟨hc5, hf5⟩ := bcell hb5; (try simp only [World.size_drew] at hc5 hf5); have hz5 := hb5.size; (try simp at hz5); have HB5 := Lib.hid hb5; clear hb5)
    | (go_at_call_of 48 (elE (m : Int) s); refine (HO2.out _).mono ?_; rintro e w6 ⟨rfl, hb6⟩; obtain ⟨hc6, hf6⟩ := bcell hb6; (try simp only [World.size_drew] at hc6 hf6); have hz6 := hb6.size; (try simp at hz6); have HB6 := Lib.hid hb6; clear hb6))
  all_goals
    go_wp2
    go_ret
    have hb3 := HB3.out
    (try have hb4 := HB4.out)
    (try have hb5 := HB5.out)
    (try have hb6 := HB6.out)
    exact ⟨rfl, by (repeat' (first | (with_reducible assumption) | (with_reducible exact Below.refl _ _) | (with_reducible refine below_drewN ?_ _) | (with_reducible refine Below.drew ?_) | (with_reducible refine Below.alloc ?_ ?_ _) | (with_reducible refine Below.setCell ?_ ?_ _) | (with_reducible refine Below.trans ?_ (Below.mono (by assumption) ?_)) | (with_reducible exact Nat.le_refl _) | (with_reducible assumption) | omega | (simp; omega) | (simp; done)))⟩
set_option maxRecDepth 100000 in
set_option maxHeartbeats 4000000 in
/-- impl.runs.amountAt. -/
theorem amountR_yn (m : Nat) (a s i j x y : Int) (A : Array Value) (w : World) (hx : x = i) (hy : ¬ y = j)
    (HO : ∀ w', Calls Try.prog 78 #[fdE (m : Int)] w' fun e w'' => e = .returned (elE (m : Int) 1) ∧ Below w'.heap.size w' w'')
    (HP : ∀ w', Calls Try.prog 52 #[elE (m : Int) a, elE (m : Int) 1] w' fun e w'' => e = .returned (elE (m : Int) s) ∧ Below w'.heap.size w' w'')
    (H1 : ∀ w', Calls Try.prog 48 #[.agg A, elE (m : Int) a] w' fun e w'' => e = .returned (.int .i64 x) ∧ Below w'.heap.size w' w'')
    (H2 : ∀ w', Calls Try.prog 48 #[.agg A, elE (m : Int) s] w' fun e w'' => e = .returned (.int .i64 y) ∧ Below w'.heap.size w' w'') :
    Calls Try.prog 110 #[.agg #[.int .i64 i, .int .i64 j, .func (.func 48) #[.agg A] #[]], elE (m : Int) a] w fun e w' => e = .returned (.int .i64 0) ∧ Below w.heap.size w w' := by
  subst hx
  have hb : (y == j) = false := by simpa using hy
  have hd : decide (y = j) = false := by simpa using hy
  have HOO := Lib.hid HO
  have HPP := Lib.hid HP
  have HO1 := Lib.hid H1
  have HO2 := Lib.hid H2
  clear HO HP H1 H2
  go_enter Try.func110, Try.ntmps110
  go_wp2_with fail
  have HTW := Lib.hid (two w (.cells #[.int .i64 x, .int .i64 j, .func (.func 48) #[.agg A] #[]] 81) (eblk (m : Int) a))
  have HKEEP : Hid (∀ w', Below (w.heap.size + 2) ((w.alloc (.cells #[.int .i64 x, .int .i64 j, .func (.func 48) #[.agg A] #[]] 81)).alloc (eblk (m : Int) a)) w' → w'.cell? ⟨w.heap.size, 0, none⟩ = some (.int .i64 x) ∧ w'.cell? ⟨w.heap.size, 1, none⟩ = some (.int .i64 j) ∧ w'.cell? ⟨w.heap.size, 2, none⟩ = some (.func (.func 48) #[.agg A] #[]) ∧ w'.cell? ⟨w.heap.size + 1, 0, none⟩ = some (.int .i64 m) ∧ w'.cell? ⟨w.heap.size + 1, 1, none⟩ = some (.int .i64 (pr m)) ∧ w'.cell? ⟨w.heap.size + 1, 2, none⟩ = some (.int .i64 (pl m)) ∧ w'.cell? ⟨w.heap.size + 1, 3, none⟩ = some (.int .i64 (dg m a 0)) ∧ w'.cell? ⟨w.heap.size + 1, 4, none⟩ = some (.int .i64 (dg m a 1)) ∧ w'.cell? ⟨w.heap.size + 1, 5, none⟩ = some (.int .i64 (dg m a 2)) ∧ w'.cell? ⟨w.heap.size + 1, 6, none⟩ = some (.int .i64 (dg m a 3))) := Lib.hid fun w' hb => by
    have h1 := cellsK ((hb.block w.heap.size (by omega)).trans HTW.out.1)
    obtain ⟨y0, y1, y2, y3, y4, y5, y6, _⟩ := seven ((hb.block (w.heap.size + 1) (by omega)).trans HTW.out.2)
    exact ⟨h1 0, h1 1, h1 2, y0, y1, y2, y3, y4, y5, y6⟩
  go_region_held3 (fun w' => w'.cell? ⟨w.heap.size, 0, none⟩ = some (.int .i64 x) ∧ w'.cell? ⟨w.heap.size, 1, none⟩ = some (.int .i64 j) ∧ w'.cell? ⟨w.heap.size, 2, none⟩ = some (.func (.func 48) #[.agg A] #[]) ∧ w'.cell? ⟨w.heap.size + 1, 0, none⟩ = some (.int .i64 m) ∧ w'.cell? ⟨w.heap.size + 1, 1, none⟩ = some (.int .i64 (pr m)) ∧ w'.cell? ⟨w.heap.size + 1, 2, none⟩ = some (.int .i64 (pl m)) ∧ w'.cell? ⟨w.heap.size + 1, 3, none⟩ = some (.int .i64 (dg m a 0)) ∧ w'.cell? ⟨w.heap.size + 1, 4, none⟩ = some (.int .i64 (dg m a 1)) ∧ w'.cell? ⟨w.heap.size + 1, 5, none⟩ = some (.int .i64 (dg m a 2)) ∧ w'.cell? ⟨w.heap.size + 1, 6, none⟩ = some (.int .i64 (dg m a 3)))
    (exact HKEEP.out _ (by (try have hb3 := HB3.out); (try have hb4 := HB4.out); (try have hb5 := HB5.out); (try have hb6 := HB6.out); (repeat' (first | (with_reducible assumption) | (with_reducible exact Below.refl _ _) | (with_reducible refine below_drewN ?_ _) | (with_reducible refine Below.drew ?_) | (with_reducible refine Below.alloc ?_ ?_ _) | (with_reducible refine Below.setCell ?_ ?_ _) | (with_reducible refine Below.trans ?_ (Below.mono (by assumption) ?_)) | (with_reducible exact Nat.le_refl _) | (with_reducible assumption) | omega | (simp; omega) | (simp; done)))))
    (first
    | (go_at_call_of 48 (dg (m : Int) a 0); refine (HO1.out _).mono ?_; rintro e w3 ⟨rfl, hb3⟩; obtain ⟨hc3, hf3⟩ := bcell hb3; (try simp only [World.size_drew] at hc3 hf3); have hz3 := hb3.size; (try simp at hz3); have HB3 := Lib.hid hb3; clear hb3)
    | (go_at_call 78; refine (HOO.out _).mono ?_; rintro e w4 ⟨rfl, hb4⟩; obtain ⟨hc4, hf4⟩ := bcell hb4; (try simp only [World.size_drew] at hc4 hf4); have hz4 := hb4.size; (try simp at hz4); have HB4 := Lib.hid hb4; clear hb4)
    | (go_at_call 52; refine (HPP.out _).mono ?_; rintro e w5 ⟨rfl, hb5⟩; obtain ⟨hc5, hf5⟩ := bcell hb5; (try simp only [World.size_drew] at hc5 hf5); have hz5 := hb5.size; (try simp at hz5); have HB5 := Lib.hid hb5; clear hb5)
    | (go_at_call_of 48 (elE (m : Int) s); refine (HO2.out _).mono ?_; rintro e w6 ⟨rfl, hb6⟩; obtain ⟨hc6, hf6⟩ := bcell hb6; (try simp only [World.size_drew] at hc6 hf6); have hz6 := hb6.size; (try simp at hz6); have HB6 := Lib.hid hb6; clear hb6))
  all_goals
    go_wp2
    go_ret
    have hb3 := HB3.out
    (try have hb4 := HB4.out)
    (try have hb5 := HB5.out)
    (try have hb6 := HB6.out)
    exact ⟨rfl, by (repeat' (first | (with_reducible assumption) | (with_reducible exact Below.refl _ _) | (with_reducible refine below_drewN ?_ _) | (with_reducible refine Below.drew ?_) | (with_reducible refine Below.alloc ?_ ?_ _) | (with_reducible refine Below.setCell ?_ ?_ _) | (with_reducible refine Below.trans ?_ (Below.mono (by assumption) ?_)) | (with_reducible exact Nat.le_refl _) | (with_reducible assumption) | omega | (simp; omega) | (simp; done)))⟩
/-- 1 or -1. -/
def sgn (n : Int) : Bool := decide (n = 1) || decide (n = -1)
theorem ctSign_any (n : Int) (w : World) :
    Calls Try.prog 55 #[.int .i64 n] w fun e w' => e = .returned (.bool (sgn n)) ∧ Below w.heap.size w w' := by
  by_cases h1 : n = 1
  · subst h1
    go_enter Try.func55, Try.ntmps55
    go_wp2
    go_ret
    exact ⟨rfl, Below.refl _ _⟩
  · by_cases h2 : n = -1
    · subst h2
      go_enter Try.func55, Try.ntmps55
      go_wp2
      go_ret
      exact ⟨rfl, Below.refl _ _⟩
    · have e : sgn n = false := by simp [sgn, h1, h2]
      have b1 : (n == 1) = false := by simpa using h1
      have b2 : (n == -1) = false := by simpa using h2
      rw [e]
      clear e
      go_enter Try.func55, Try.ntmps55
      go_wp2
      go_ret
      exact ⟨by first | rfl | exact ret_bool (by simp [h1, h2]), Below.refl _ _⟩
theorem isSign_any (n : Int) (w : World) :
    Calls Try.prog 54 #[.int .i64 n] w fun e w' => e = .returned (.bool (sgn n)) ∧ Below w.heap.size w w' := by
  by_cases h1 : n = 1
  · subst h1
    go_enter Try.func54, Try.ntmps54
    go_wp2
    go_ret
    exact ⟨rfl, Below.refl _ _⟩
  · by_cases h2 : n = -1
    · subst h2
      go_enter Try.func54, Try.ntmps54
      go_wp2
      go_ret
      exact ⟨rfl, Below.refl _ _⟩
    · have e : sgn n = false := by simp [sgn, h1, h2]
      have b1 : (n == 1) = false := by simpa using h1
      have b2 : (n == -1) = false := by simpa using h2
      rw [e]
      clear e
      go_enter Try.func54, Try.ntmps54
      go_wp2
      go_ret
      exact ⟨by first | rfl | exact ret_bool (by simp [h1, h2]), Below.refl _ _⟩
def orq (q i j : Int) : Bool := odq q && (sgn i && sgn j)
theorem orq_nat {q i j : Int} (h : orq q i j = true) : ∃ m : Nat, q = (m : Int) ∧ isSz (m : Int) = true ∧ (m : Int) % 2 = 1 ∧ sgn i = true ∧ sgn j = true := by
  simp only [orq, Bool.and_eq_true] at h
  obtain ⟨ho, h1, h2⟩ := h
  obtain ⟨m, rfl, hs, hm⟩ := odq_nat ho
  exact ⟨m, rfl, hs, hm, h1, h2⟩
/-- How many runs. -/
def rns (m : Nat) (i j : Int) : Int := csm (fun x => rn i j (chi m (x : Int)) (chi m (addF m (x : Int) 1))) m
theorem spec_CountRuns_no (q i j : Int) (w : World) (hn : orq q i j = false) :
    Calls Try.prog 19 #[.int .i64 q, .int .i64 i, .int .i64 j] w fun e w' => e = .returned (.tuple #[.int .i64 0, .bool false]) ∧ Below w.heap.size w w' := by
  have HO := Lib.hid (fun w => ctOdd_any q w)
  have H1 := Lib.hid (fun w => ctSign_any i w)
  have H2 := Lib.hid (fun w => ctSign_any j w)
  cases ho : odq q with
  | false =>
    rw [ho] at HO
    clear hn ho
    go_enter Try.func19, Try.ntmps19
    go_wp2_with fail
    refine (HO.out _).mono ?_
    rintro e w1 ⟨rfl, hb1⟩
    have hz1 := hb1.size
    go_wp2
    go_ret2
    exact ⟨rfl, by (repeat' (first | (with_reducible assumption) | (with_reducible exact Below.refl _ _) | (with_reducible refine below_drewN ?_ _) | (with_reducible refine Below.drew ?_) | (with_reducible refine Below.alloc ?_ ?_ _) | (with_reducible refine Below.setCell ?_ ?_ _) | (with_reducible refine Below.trans ?_ (Below.mono (by assumption) ?_)) | (with_reducible exact Nat.le_refl _) | (with_reducible assumption) | omega | (simp; omega) | (simp; done)))⟩
  | true =>
    rw [ho] at HO
    cases h1 : sgn i with
    | false =>
      rw [h1] at H1
      clear hn ho h1
      go_enter Try.func19, Try.ntmps19
      go_wp2_with fail
      refine (HO.out _).mono ?_
      rintro e w1 ⟨rfl, hb1⟩
      have hz1 := hb1.size
      go_wp2_with fail
      refine (H1.out _).mono ?_
      rintro e w2 ⟨rfl, hb2⟩
      have hz2 := hb2.size
      go_wp2
      go_ret2
      exact ⟨rfl, by (repeat' (first | (with_reducible assumption) | (with_reducible exact Below.refl _ _) | (with_reducible refine below_drewN ?_ _) | (with_reducible refine Below.drew ?_) | (with_reducible refine Below.alloc ?_ ?_ _) | (with_reducible refine Below.setCell ?_ ?_ _) | (with_reducible refine Below.trans ?_ (Below.mono (by assumption) ?_)) | (with_reducible exact Nat.le_refl _) | (with_reducible assumption) | omega | (simp; omega) | (simp; done)))⟩
    | true =>
      have h2 : sgn j = false := by simpa [orq, ho, h1] using hn
      rw [h1] at H1
      rw [h2] at H2
      clear hn ho h1 h2
      go_enter Try.func19, Try.ntmps19
      go_wp2_with fail
      refine (HO.out _).mono ?_
      rintro e w1 ⟨rfl, hb1⟩
      have hz1 := hb1.size
      go_wp2_with fail
      refine (H1.out _).mono ?_
      rintro e w2 ⟨rfl, hb2⟩
      have hz2 := hb2.size
      go_wp2_with fail
      refine (H2.out _).mono ?_
      rintro e w3 ⟨rfl, hb3⟩
      have hz3 := hb3.size
      go_wp2
      go_ret2
      exact ⟨rfl, by (repeat' (first | (with_reducible assumption) | (with_reducible exact Below.refl _ _) | (with_reducible refine below_drewN ?_ _) | (with_reducible refine Below.drew ?_) | (with_reducible refine Below.alloc ?_ ?_ _) | (with_reducible refine Below.setCell ?_ ?_ _) | (with_reducible refine Below.trans ?_ (Below.mono (by assumption) ?_)) | (with_reducible exact Nat.le_refl _) | (with_reducible assumption) | omega | (simp; omega) | (simp; done)))⟩
theorem impl_CountRuns_no1 (q i j : Int) (w : World) (h : isSz q = false) :
    Calls Try.prog 18 #[.int .i64 q, .int .i64 i, .int .i64 j] w fun e w' => e = .returned (.tuple #[.int .i64 0, .bool false]) ∧ Below w.heap.size w w' := by
  have HF := Lib.hid (fun w => fieldOf_no q w h)
  clear h
  go_enter Try.func18, Try.ntmps18
  go_wp2_with fail
  refine (HF.out _).mono ?_
  rintro e w1 ⟨rfl, hb1⟩
  have hz1 := hb1.size
  (try simp at hz1)
  go_wp2
  go_ret2
  exact ⟨rfl, by (repeat' (first | (with_reducible assumption) | (with_reducible exact Below.refl _ _) | (with_reducible refine below_drewN ?_ _) | (with_reducible refine Below.drew ?_) | (with_reducible refine Below.alloc ?_ ?_ _) | (with_reducible refine Below.setCell ?_ ?_ _) | (with_reducible refine Below.trans ?_ (Below.mono (by assumption) ?_)) | (with_reducible exact Nat.le_refl _) | (with_reducible assumption) | omega | (simp; omega) | (simp; done)))⟩
theorem impl_CountRuns_no2 (m : Nat) (i j : Int) (w : World) (h : isSz (m : Int) = true) (ho : (m : Int) % 2 = 0) :
    Calls Try.prog 18 #[.int .i64 m, .int .i64 i, .int .i64 j] w fun e w' => e = .returned (.tuple #[.int .i64 0, .bool false]) ∧ Below w.heap.size w w' := by
  have HF := Lib.hid (fun w => fieldOf_yes (m : Int) w h)
  clear h
  go_enter Try.func18, Try.ntmps18
  go_wp2_with fail
  refine (HF.out _).mono ?_
  rintro e w1 ⟨rfl, hb1⟩
  have hz1 := hb1.size
  (try simp at hz1)
  go_wp2
  go_ret2
  exact ⟨rfl, by (repeat' (first | (with_reducible assumption) | (with_reducible exact Below.refl _ _) | (with_reducible refine below_drewN ?_ _) | (with_reducible refine Below.drew ?_) | (with_reducible refine Below.alloc ?_ ?_ _) | (with_reducible refine Below.setCell ?_ ?_ _) | (with_reducible refine Below.trans ?_ (Below.mono (by assumption) ?_)) | (with_reducible exact Nat.le_refl _) | (with_reducible assumption) | omega | (simp; omega) | (simp; done)))⟩
theorem impl_CountRuns_no3 (m : Nat) (i j : Int) (w : World) (h : isSz (m : Int) = true) (ho : (m : Int) % 2 = 1) (h1 : sgn i = false) :
    Calls Try.prog 18 #[.int .i64 m, .int .i64 i, .int .i64 j] w fun e w' => e = .returned (.tuple #[.int .i64 0, .bool false]) ∧ Below w.heap.size w w' := by
  have HF := Lib.hid (fun w => fieldOf_yes (m : Int) w h)
  have H1 := Lib.hid (fun w => isSign_any i w)
  rw [h1] at H1
  have hne : ((m : Int) % 2 == 0) = false := by rw [ho]; rfl
  clear h h1
  go_enter Try.func18, Try.ntmps18
  go_wp2_with fail
  refine (HF.out _).mono ?_
  rintro e w1 ⟨rfl, hb1⟩
  have hz1 := hb1.size
  (try simp at hz1)
  go_wp2_with fail
  refine (H1.out _).mono ?_
  rintro e w2 ⟨rfl, hb2⟩
  have hz2 := hb2.size
  (try simp at hz2)
  go_wp2
  go_ret2
  exact ⟨rfl, by (repeat' (first | (with_reducible assumption) | (with_reducible exact Below.refl _ _) | (with_reducible refine below_drewN ?_ _) | (with_reducible refine Below.drew ?_) | (with_reducible refine Below.alloc ?_ ?_ _) | (with_reducible refine Below.setCell ?_ ?_ _) | (with_reducible refine Below.trans ?_ (Below.mono (by assumption) ?_)) | (with_reducible exact Nat.le_refl _) | (with_reducible assumption) | omega | (simp; omega) | (simp; done)))⟩
theorem impl_CountRuns_no4 (m : Nat) (i j : Int) (w : World) (h : isSz (m : Int) = true) (ho : (m : Int) % 2 = 1) (h1 : sgn i = true) (h2 : sgn j = false) :
    Calls Try.prog 18 #[.int .i64 m, .int .i64 i, .int .i64 j] w fun e w' => e = .returned (.tuple #[.int .i64 0, .bool false]) ∧ Below w.heap.size w w' := by
  have HF := Lib.hid (fun w => fieldOf_yes (m : Int) w h)
  have H1 := Lib.hid (fun w => isSign_any i w)
  have H2 := Lib.hid (fun w => isSign_any j w)
  rw [h1] at H1
  rw [h2] at H2
  have hne : ((m : Int) % 2 == 0) = false := by rw [ho]; rfl
  clear h h1 h2
  go_enter Try.func18, Try.ntmps18
  go_wp2_with fail
  refine (HF.out _).mono ?_
  rintro e w1 ⟨rfl, hb1⟩
  have hz1 := hb1.size
  (try simp at hz1)
  go_wp2_with fail
  refine (H1.out _).mono ?_
  rintro e w2 ⟨rfl, hb2⟩
  have hz2 := hb2.size
  (try simp at hz2)
  go_wp2_with fail
  refine (H2.out _).mono ?_
  rintro e w3 ⟨rfl, hb3⟩
  have hz3 := hb3.size
  go_wp2
  go_ret2
  exact ⟨rfl, by (repeat' (first | (with_reducible assumption) | (with_reducible exact Below.refl _ _) | (with_reducible refine below_drewN ?_ _) | (with_reducible refine Below.drew ?_) | (with_reducible refine Below.alloc ?_ ?_ _) | (with_reducible refine Below.setCell ?_ ?_ _) | (with_reducible refine Below.trans ?_ (Below.mono (by assumption) ?_)) | (with_reducible exact Nat.le_refl _) | (with_reducible assumption) | omega | (simp; omega) | (simp; done)))⟩
theorem impl_CountRuns_no (q i j : Int) (w : World) (hn : orq q i j = false) :
    Calls Try.prog 18 #[.int .i64 q, .int .i64 i, .int .i64 j] w fun e w' => e = .returned (.tuple #[.int .i64 0, .bool false]) ∧ Below w.heap.size w w' := by
  cases hs : isSz q with
  | false => exact impl_CountRuns_no1 q i j w hs
  | true =>
    have hq := isSz_le q hs
    obtain ⟨m, rfl⟩ := Int.eq_ofNat_of_zero_le (show 0 ≤ q by omega)
    by_cases ho : (m : Int) % 2 = 1
    · cases h1 : sgn i with
      | false => exact impl_CountRuns_no3 m i j w hs ho h1
      | true =>
        have h2 : sgn j = false := by simpa [orq, odq, hs, ho, h1] using hn
        exact impl_CountRuns_no4 m i j w hs ho h1 h2
    · exact impl_CountRuns_no2 m i j w hs (by omega)
set_option maxRecDepth 100000 in
set_option maxHeartbeats 4000000 in
theorem spec_CountRuns_yes (m : Nat) (i j : Int) (w : World) (h : isSz (m : Int) = true) (ho : (m : Int) % 2 = 1) (h1 : sgn i = true) (h2 : sgn j = true) :
    Calls Try.prog 19 #[.int .i64 m, .int .i64 i, .int .i64 j] w fun e w' => e = .returned (.tuple #[.int .i64 (rns m i j), .bool true]) ∧ Below w.heap.size w w' := by
  have hq := isSz_le (m : Int) h
  have HO := Lib.hid (fun w => ctOdd_any (m : Int) w)
  have hoq : odq (m : Int) = true := by unfold odq; rw [h, ho]; rfl
  rw [hoq] at HO
  have H1 := Lib.hid (fun w => ctSign_any i w)
  have H2 := Lib.hid (fun w => ctSign_any j w)
  rw [h1] at H1
  rw [h2] at H2
  have hone := El.one h
  have HC1 := Lib.hid (fun (x : Nat) w (hx : x < m) => ctOf_any m (x : Int) w h ho (by omega) (by omega))
  have HPL := Lib.hid (fun (x : Nat) w (hx : x < m) => fdPlus_any (m : Int) (x : Int) 1 w h (by omega) (by omega) hone.1 hone.2)
  have HC2 := Lib.hid (fun (x : Nat) w (hx : x < m) => ctOf_any m (addF m (x : Int) 1) w h ho (addF_bd (m : Int) (x : Int) 1 h (by omega) (by omega) hone.1 hone.2).1 (addF_bd (m : Int) (x : Int) 1 h (by omega) (by omega) hone.1 hone.2).2)
  have HB := Lib.hid (csm_bd (c := fun x => rn i j (chi m (x : Int)) (chi m (addF m (x : Int) 1))) (fun _ => rn_bd _ _ _ _))
  have HS : Hid (∀ k, csm (fun x => rn i j (chi m (x : Int)) (chi m (addF m (x : Int) 1))) (k + 1) = csm (fun x => rn i j (chi m (x : Int)) (chi m (addF m (x : Int) 1))) k + rn i j (chi m (k : Int)) (chi m (addF m (k : Int) 1))) := Lib.hid fun _ => rfl
  have HS0 : Hid (csm (fun x => rn i j (chi m (x : Int)) (chi m (addF m (x : Int) 1))) 0 = 0) := Lib.hid rfl
  unfold rns
  clear h ho h1 h2 hoq hone
  generalize csm (fun x => rn i j (chi m (x : Int)) (chi m (addF m (x : Int) 1))) = S at *
  go_enter Try.func19, Try.ntmps19
  go_wp2_with fail
  refine (HO.out _).mono ?_
  rintro e w1 ⟨rfl, hb1⟩
  have hz1 := hb1.size
  go_wp2_with fail
  refine (H1.out _).mono ?_
  rintro e w2 ⟨rfl, hb2⟩
  have hz2 := hb2.size
  go_wp2_with fail
  refine (H2.out _).mono ?_
  rintro e w3 ⟨rfl, hb3⟩
  have hz3 := hb3.size
  have HB3 : Hid (Below w.heap.size w w3) := Lib.hid (by (repeat' (first | (with_reducible assumption) | (with_reducible exact Below.refl _ _) | (with_reducible refine below_drewN ?_ _) | (with_reducible refine Below.drew ?_) | (with_reducible refine Below.alloc ?_ ?_ _) | (with_reducible refine Below.setCell ?_ ?_ _) | (with_reducible refine Below.trans ?_ (Below.mono (by assumption) ?_)) | (with_reducible exact Nat.le_refl _) | (with_reducible assumption) | omega | (simp; omega) | (simp; done))))
  clear hb1 hb2 hb3 hz1 hz2 hz3
  go_wp2_with fail
  go_loopw [8, 9] (fun vs vx wr => ∃ x : Nat, x ≤ m ∧ vx = .int .i64 x ∧ vs = .int .i64 (S x) ∧ Below w.heap.size w wr) (fun _ vx _ => m - (intOf vx).toNat)
  case atStart => exact ⟨0, Nat.zero_le _, rfl, by rw [HS0.out], HB3.out⟩
  case round =>
    obtain ⟨x, hxm, rfl, rfl, hb⟩ := hrel
    have hzb := hb.size
    have HBB := Lib.hid hb; clear hb
    by_cases hlt : x < m
    · have X1 := Lib.hid (fun w => HC1.out x w hlt)
      have X2 := Lib.hid (fun w => HPL.out x w hlt)
      have X3 := Lib.hid (fun w => HC2.out x w hlt)
      have b1 := HB.out x
      have HSX := Lib.hid (HS.out x)
      generalize addF (m : Int) (x : Int) 1 = y at *
      generalize chi (m : Int) (x : Int) = c1 at *
      generalize chi (m : Int) y = c2 at *
      obtain ⟨s2, hs2⟩ : ∃ s2, S (x + 1) = s2 := ⟨_, rfl⟩
      rw [hs2] at HSX
      have HS2 := Lib.hid hs2; clear hs2
      generalize S x = s at *
      by_cases e1 : c1 = i
      · have d1 : (c1 == i) = true := by simpa using e1
        by_cases e2 : c2 = j
        · have d2 : (c2 == j) = true := by simpa using e2
          have HN : Hid (s2 = s + 1) := Lib.hid (by rw [HSX.out]; unfold rn; rw [if_pos ⟨e1, e2⟩])
          have hw2 : IntKind.i64.wrap (s + 1) = s + 1 := IntWalk.i64_in _ (by omega)
          clear HSX e1 e2
          go_wp2_with fail
          refine (X1.out _).mono ?_
          rintro e w4 ⟨rfl, hb4⟩
          have hz4 := hb4.size
          go_wp2_with fail
          refine (X2.out _).mono ?_
          rintro e w5 ⟨rfl, hb5⟩
          have hz5 := hb5.size
          go_wp2_with fail
          refine (X3.out _).mono ?_
          rintro e w6 ⟨rfl, hb6⟩
          have HB6 : Hid (Below w.heap.size w w6) := Lib.hid (HBB.out.trans ((hb4.trans ((hb5.trans (hb6.mono hz5)).mono hz4)).mono hzb))
          clear hb4 hb5 hb6
          go_wp2
          go_roundw
          case rel => exact ⟨x + 1, by omega, by go_num, by rw [HS2.out, HN.out], HB6.out⟩
          case measure => simp [intOf]; omega
        · have d2 : (c2 == j) = false := by simpa using e2
          have d2' : decide (c2 = j) = false := by simpa using e2
          have HN : Hid (s2 = s) := Lib.hid (by rw [HSX.out]; unfold rn; rw [if_neg fun hh => e2 hh.2, Int.add_zero])
          clear HSX e1 e2
          go_wp2_with fail
          refine (X1.out _).mono ?_
          rintro e w4 ⟨rfl, hb4⟩
          have hz4 := hb4.size
          go_wp2_with fail
          refine (X2.out _).mono ?_
          rintro e w5 ⟨rfl, hb5⟩
          have hz5 := hb5.size
          go_wp2_with fail
          refine (X3.out _).mono ?_
          rintro e w6 ⟨rfl, hb6⟩
          have HB6 : Hid (Below w.heap.size w w6) := Lib.hid (HBB.out.trans ((hb4.trans ((hb5.trans (hb6.mono hz5)).mono hz4)).mono hzb))
          clear hb4 hb5 hb6
          go_wp2
          go_roundw
          case rel => exact ⟨x + 1, by omega, by go_num, by rw [HS2.out, HN.out], HB6.out⟩
          case measure => simp [intOf]; omega
      · have d1 : (c1 == i) = false := by simpa using e1
        have d1' : decide (c1 = i) = false := by simpa using e1
        have HN : Hid (s2 = s) := Lib.hid (by rw [HSX.out]; unfold rn; rw [if_neg fun hh => e1 hh.1, Int.add_zero])
        clear HSX e1
        go_wp2_with fail
        refine (X1.out _).mono ?_
        rintro e w4 ⟨rfl, hb4⟩
        have HB6 : Hid (Below w.heap.size w w4) := Lib.hid (HBB.out.trans (hb4.mono hzb))
        clear hb4
        go_wp2
        go_roundw
        case rel => exact ⟨x + 1, by omega, by go_num, by rw [HS2.out, HN.out], HB6.out⟩
        case measure => simp [intOf]; omega
    · obtain rfl : m = x := by omega
      go_wp2
      go_ret2
      exact ⟨rfl, HBB.out⟩
set_option maxRecDepth 100000 in
set_option maxHeartbeats 4000000 in
theorem impl_CountRuns_yes (m : Nat) (i j : Int) (w : World) (h : isSz (m : Int) = true) (ho : (m : Int) % 2 = 1) (h1 : sgn i = true) (h2 : sgn j = true) :
    Calls Try.prog 18 #[.int .i64 m, .int .i64 i, .int .i64 j] w fun e w' => e = .returned (.tuple #[.int .i64 (rns m i j), .bool true]) ∧ Below w.heap.size w w' := by
  have hq := isSz_le (m : Int) h
  have hone := El.one h
  have HF := Lib.hid (fun w => fieldOf_yes (m : Int) w h)
  have H1 := Lib.hid (fun w => isSign_any i w)
  have H2 := Lib.hid (fun w => isSign_any j w)
  rw [h1] at H1
  rw [h2] at H2
  have HC := Lib.hid (fun w => charactersE m w h)
  have HS : Hid (∀ w', Calls Try.prog 46 #[fdE (m : Int), .iface 81 (.agg #[.int .i64 i, .int .i64 j, .func (.func 48) #[.agg (CH (chN m m))] #[]])] w' fun e w'' => e = .returned (.int .i64 (rns m i j)) ∧ Below w'.heap.size w' w'') := Lib.hid fun w' =>
    sumOver_R m _ (fun x => rn i j (chi m (x : Int)) (chi m (addF m (x : Int) 1))) w' h (fun _ => rn_bd _ _ _ _) fun k hk w2 hb2 => by
      have hx : El (m : Int) (k : Int) := ⟨by omega, by omega⟩
      have hy : El (m : Int) (addF m (k : Int) 1) := hx.add h hone
      unfold rn
      by_cases e1 : chi m (k : Int) = i
      · by_cases e2 : chi m (addF m (k : Int) 1) = j
        · rw [if_pos ⟨e1, e2⟩]
          exact amountR_yy m (k : Int) (addF m (k : Int) 1) i j _ _ _ w2 e1 e2 (fun w3 => oneE (m : Int) w3 h) (fun w3 => plusE (m : Int) (k : Int) 1 w3 h hx.1 hx.2 hone.1 hone.2) (fun w3 => ofE m _ w3 h hx) (fun w3 => ofE m _ w3 h hy)
        · rw [if_neg fun hh => e2 hh.2]
          exact amountR_yn m (k : Int) (addF m (k : Int) 1) i j _ _ _ w2 e1 e2 (fun w3 => oneE (m : Int) w3 h) (fun w3 => plusE (m : Int) (k : Int) 1 w3 h hx.1 hx.2 hone.1 hone.2) (fun w3 => ofE m _ w3 h hx) (fun w3 => ofE m _ w3 h hy)
      · rw [if_neg fun hh => e1 hh.1]
        exact amountR_no m (k : Int) i j _ _ w2 e1 (fun w3 => ofE m _ w3 h hx)
  have hne : ((m : Int) % 2 == 0) = false := by rw [ho]; rfl
  clear h ho h1 h2 hone
  generalize rns m i j = r at *
  generalize CH (chN m m) = A at *
  go_enter Try.func18, Try.ntmps18
  go_wp2_with fail
  refine (HF.out _).mono ?_
  rintro e w1 ⟨rfl, hb1⟩
  have hz1 := hb1.size
  (try simp at hz1)
  go_wp2_with fail
  refine (H1.out _).mono ?_
  rintro e w2 ⟨rfl, hb2⟩
  have hz2 := hb2.size
  (try simp at hz2)
  go_wp2_with fail
  refine (H2.out _).mono ?_
  rintro e w3 ⟨rfl, hb3⟩
  have hz3 := hb3.size
  have hb3' : Below (w1.heap.size + 1) (w1.alloc (ffblk (m : Int))) w3 := by (repeat' (first | (with_reducible assumption) | (with_reducible exact Below.refl _ _) | (with_reducible refine below_drewN ?_ _) | (with_reducible refine Below.drew ?_) | (with_reducible refine Below.alloc ?_ ?_ _) | (with_reducible refine Below.setCell ?_ ?_ _) | (with_reducible refine Below.trans ?_ (Below.mono (by assumption) ?_)) | (with_reducible exact Nat.le_refl _) | (with_reducible assumption) | omega | (simp; omega) | (simp; done)))
  have HB3 := Lib.hid hb3'
  have HB1 := Lib.hid hb1
  clear hb1 hb2 hb3 hb3'
  go_wp2_with fail
  have HKEEP : Hid (∀ w', Below (w1.heap.size + 1) (w1.alloc (ffblk (m : Int))) w' → w'.cell? ⟨w1.heap.size, 0, none⟩ = some (.int .i64 m) ∧ w'.cell? ⟨w1.heap.size, 1, none⟩ = some (.int .i64 (pr m)) ∧ w'.cell? ⟨w1.heap.size, 2, none⟩ = some (.int .i64 (pl m))) := Lib.hid fun w' hb => by
    obtain ⟨y0, y1, y2, _⟩ := cells3' ((hb.block w1.heap.size (by omega)).trans (heap_alloc_new w1 _))
    exact ⟨y0, y1, y2⟩
  go_region_held3 (fun w' => w'.cell? ⟨w1.heap.size, 0, none⟩ = some (.int .i64 m) ∧ w'.cell? ⟨w1.heap.size, 1, none⟩ = some (.int .i64 (pr m)) ∧ w'.cell? ⟨w1.heap.size, 2, none⟩ = some (.int .i64 (pl m)))
    (exact HKEEP.out _ (by have hb3 := HB3.out; (try have hb4 := HB4.out); (try have hb5 := HB5.out); (repeat' (first | (with_reducible assumption) | (with_reducible exact Below.refl _ _) | (with_reducible refine below_drewN ?_ _) | (with_reducible refine Below.drew ?_) | (with_reducible refine Below.alloc ?_ ?_ _) | (with_reducible refine Below.setCell ?_ ?_ _) | (with_reducible refine Below.trans ?_ (Below.mono (by assumption) ?_)) | (with_reducible exact Nat.le_refl _) | (with_reducible assumption) | omega | (simp; omega) | (simp; done)))))
    (first
    | (go_at_call 47; refine (HC.out _).mono ?_; rintro e w4 ⟨rfl, hb4⟩; obtain ⟨hc4, hf4⟩ := bcell hb4; (try simp only [World.size_drew] at hc4 hf4); have hz4 := hb4.size; (try simp at hz4); have HB4 := Lib.hid hb4; clear hb4)
    | (go_at_call 46; refine (HS.out _).mono ?_; rintro e w5 ⟨rfl, hb5⟩; obtain ⟨hc5, hf5⟩ := bcell hb5; (try simp only [World.size_drew] at hc5 hf5); have hz5 := hb5.size; (try simp at hz5); have HB5 := Lib.hid hb5; clear hb5))
  all_goals
    go_wp2
    go_ret2
    have hb1 := HB1.out
    have hb3 := HB3.out
    have hb4 := HB4.out
    have hb5 := HB5.out
    exact ⟨rfl, by (repeat' (first | (with_reducible assumption) | (with_reducible exact Below.refl _ _) | (with_reducible refine below_drewN ?_ _) | (with_reducible refine Below.drew ?_) | (with_reducible refine Below.alloc ?_ ?_ _) | (with_reducible refine Below.setCell ?_ ?_ _) | (with_reducible refine Below.trans ?_ (Below.mono (by assumption) ?_)) | (with_reducible exact Nat.le_refl _) | (with_reducible assumption) | omega | (simp; omega) | (simp; done)))⟩
theorem key_CountRuns (q : Int) (first : Int) (second : Int) : ∃ (r : Int) (o : Bool), (∀ (w : World), Calls Try.prog 19 #[.int .i64 q, .int .i64 first, .int .i64 second] w fun e w' => e = .returned (.tuple #[.int .i64 r, .bool o]) ∧ Below w.heap.size w w') ∧
      (∀ (w : World), Calls Try.prog 18 #[.int .i64 q, .int .i64 first, .int .i64 second] w fun e w' => e = .returned (.tuple #[.int .i64 r, .bool o]) ∧ Below w.heap.size w w') := by
  cases h : orq q first second with
  | false => exact ⟨0, false, fun w => spec_CountRuns_no q first second w h, fun w => impl_CountRuns_no q first second w h⟩
  | true =>
    obtain ⟨m, rfl, hs, ho, h1, h2⟩ := orq_nat h
    exact ⟨_, true, fun w => spec_CountRuns_yes m first second w hs ho h1 h2, fun w => impl_CountRuns_yes m first second w hs ho h1 h2⟩
end Go.Proofs.Ytpjlolnnbbgikaa
