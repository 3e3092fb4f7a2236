/- The closure of impl.poly.indexedPermutes by a contract (its region by an invariant: NG). -/
import Derived.Test.YtkjpkdecoeoghaaNR
import Derived.Test.YtkjpkdecoeoghaaNG
namespace Go.Proofs.Ytkjpkdecoeoghaa
open Go.RowKit
def csl (i : Nat) : Nat := i + 6
theorem csl_ne (i : Nat) (_ : i < 9) : ∀ j, j < 9 → j ≠ i → csl j ≠ csl i := fun j _ h => by unfold csl; omega
/-- What the operations of the closure leave. -/
def cV (m g n cap R S : Nat) (y z x1 x2 u : Int) : Nat → Value
  | 0 => elE (m : Int) y
  | 1 => .int .i64 R
  | 2 => elE (m : Int) x1
  | 3 => polyE (m : Int) (.slice (some ⟨g, 0, none⟩) n cap)
  | 4 => elE (m : Int) y
  | 5 => elE (m : Int) z
  | 6 => .int .i64 S
  | 7 => elE (m : Int) x2
  | _ => elE (m : Int) u
def CF (V : Nat → Value) : Nat → Value → World → Prop := fun j v _ => v = V j
/-- The state of the closure's assignment. -/
def CI (A : (Nat → Value) → Act) (W0 : World) (V : Nat → Value) (B m : Nat) (u : Int) (L : Array Bool) (a : Act) (w : World) : Prop := ∃ x, a = A x ∧ ((L.getD 9 true = false ∧ Below W0.heap.size W0 w ∧ Ph 9 csl (CF V) L x w) ∨ (L.getD 9 false = true ∧ ∃ wa, Below W0.heap.size W0 wa ∧ w = putO wa B 0 (m : Int) u))
theorem CI.open {A : (Nat → Value) → Act} {W0 : World} {V : Nat → Value} {B m : Nat} {u : Int} {L : Array Bool} {a : Act} {w : World} (h : CI A W0 V B m u L a w) : ∃ x, a = A x ∧ ((L.getD 9 true = false ∧ Below W0.heap.size W0 w ∧ Ph 9 csl (CF V) L x w) ∨ (L.getD 9 false = true ∧ ∃ wa, Below W0.heap.size W0 wa ∧ w = putO wa B 0 (m : Int) u)) := h
theorem CI.mk1 {A : (Nat → Value) → Act} {W0 : World} {V : Nat → Value} {B m i : Nat} {u : Int} {L : Array Bool} {a : Act} {w : World} (x : Nat → Value) (e : a = A x) (hi : i < 9) (n9 : L.getD 9 true = false) (hb : Below W0.heap.size W0 w) (h : Ph 9 csl (CF V) (L.setIfInBounds i true) x w) : CI A W0 V B m u (L.setIfInBounds i true) a w :=
  ⟨x, e, .inl ⟨by rw [getD_set_ne true (by omega)]; exact n9, hb, h⟩⟩
set_option maxRecDepth 100000 in
set_option maxHeartbeats 8000000 in
/-- The closure of indexedPermutes. -/
theorem chgClo (m g cap n R S K1 K2 K3 : Nat) (f : Nat → Int) (y : Int) (w : World) (h : isSz (m : Int) = true) (hy : El (m : Int) y) (hR : R ≤ 400) (hS : S ≤ 400) (hg : g < w.heap.size) (he : Els w g (m : Int) f n) (hf : ∀ i, El (m : Int) (f i)) (hn : n ≤ 1000)
    (hc : w.cell? ⟨K1, 0, none⟩ = some (.int .i64 R) ∧ w.cell? ⟨K2, 0, none⟩ = some (.int .i64 m) ∧ w.cell? ⟨K2, 1, none⟩ = some (.int .i64 (pr m)) ∧ w.cell? ⟨K2, 2, none⟩ = some (.int .i64 (pl m)) ∧ w.cell? ⟨K2, 3, none⟩ = some (.slice (some ⟨g, 0, none⟩) n cap) ∧ w.cell? ⟨K3, 0, none⟩ = some (.int .i64 S)) :
    Calls Try.prog 44 #[elE (m : Int) y, .pointer (some ⟨K1, 0, none⟩), .pointer (some ⟨K2, 0, none⟩), .pointer (some ⟨K3, 0, none⟩)] w fun e w' => e = .returned (elE (m : Int) (mulF m (pw m y R) (pw m (hor m y f n n) S))) ∧ Below w.heap.size w w' := by
  obtain ⟨c0, d0, d1, d2, d3, e0⟩ := hc
  have l0 := World.block_lt_of_cell? w _ c0
  have l1 := World.block_lt_of_cell? w _ d0
  have l2 := World.block_lt_of_cell? w _ e0
  simp only at l0 l1 l2
  have hz := hor_el h hy (fun i _ => hf i) n (Nat.le_refl n)
  have HP1 := Lib.hid (fun w => by have := powerE (m : Int) y (R : Int) w h hy.1 hy.2 (by omega) (by omega); rw [Int.toNat_natCast] at this; exact this)
  have HA := Lib.hid (fun w' (hb : Below w.heap.size w w') => atE (m : Int) y g cap n f w' h hy (by have := hb.size; omega) (he.below hb hg) (fun i _ => hf i) hn)
  generalize hor m y f n n = z at *
  have HP2 := Lib.hid (fun w => by have := powerE (m : Int) z (S : Int) w h hz.1 hz.2 (by omega) (by omega); rw [Int.toNat_natCast] at this; exact this)
  have hx1 := El.pw h hy R
  have hx2 := El.pw h hz S
  generalize pw m y R = x1 at *
  generalize pw m z S = x2 at *
  have HT := Lib.hid (fun w => timesE (m : Int) x1 x2 w h hx1.1 hx1.2 hx2.1 hx2.2)
  generalize mulF m x1 x2 = u at *
  have h2 := two w (eblk (m : Int) y) zeroblk
  have HKEEP : Hid (∀ w', Below (w.heap.size + 2) ((w.alloc (eblk (m : Int) y)).alloc zeroblk) w' → Below w.heap.size w w' ∧ w.heap.size + 2 ≤ w'.heap.size ∧ (w'.cell? ⟨K1, 0, none⟩ = some (.int .i64 R) ∧ w'.cell? ⟨K2, 0, none⟩ = some (.int .i64 m) ∧ w'.cell? ⟨K2, 1, none⟩ = some (.int .i64 (pr m)) ∧ w'.cell? ⟨K2, 2, none⟩ = some (.int .i64 (pl m)) ∧ w'.cell? ⟨K2, 3, none⟩ = some (.slice (some ⟨g, 0, none⟩) n cap) ∧ w'.cell? ⟨K3, 0, none⟩ = some (.int .i64 S)) ∧ (w'.cell? ⟨w.heap.size, 0, none⟩ = some (.int .i64 m) ∧ w'.cell? ⟨w.heap.size, 1, none⟩ = some (.int .i64 (pr m)) ∧ w'.cell? ⟨w.heap.size, 2, none⟩ = some (.int .i64 (pl m)) ∧ w'.cell? ⟨w.heap.size, 3, none⟩ = some (.int .i64 (dg m y 0)) ∧ w'.cell? ⟨w.heap.size, 4, none⟩ = some (.int .i64 (dg m y 1)) ∧ w'.cell? ⟨w.heap.size, 5, none⟩ = some (.int .i64 (dg m y 2)) ∧ w'.cell? ⟨w.heap.size, 6, none⟩ = some (.int .i64 (dg m y 3))) ∧ (w'.cell? ⟨w.heap.size + 1, 0, none⟩ = some (.int .i64 0) ∧ w'.cell? ⟨w.heap.size + 1, 1, none⟩ = some (.int .i64 0) ∧ w'.cell? ⟨w.heap.size + 1, 2, none⟩ = some (.int .i64 0) ∧ w'.cell? ⟨w.heap.size + 1, 3, none⟩ = some (.int .i64 0) ∧ w'.cell? ⟨w.heap.size + 1, 4, none⟩ = some (.int .i64 0) ∧ w'.cell? ⟨w.heap.size + 1, 5, none⟩ = some (.int .i64 0) ∧ w'.cell? ⟨w.heap.size + 1, 6, none⟩ = some (.int .i64 0)) ∧ (∀ o, w'.frozen? ⟨w.heap.size + 1, o, none⟩ = false)) := Lib.hid fun w' hb => by
    obtain ⟨y0, y1, y2, y3, y4, y5, y6, _⟩ := seven ((hb.block _ (by omega)).trans h2.1)
    obtain ⟨z0, z1, z2, z3, z4, z5, z6, zf, _⟩ := seven ((hb.block _ (by omega)).trans h2.2)
    have hz := hb.size
    simp at hz
    replace hb : Below w.heap.size w w' := by (repeat' (first | (with_reducible assumption) | (with_reducible exact Below.refl _ _) | (with_reducible refine below_drewN ?_ _) | (with_reducible refine Below.drew ?_) | (with_reducible refine Below.alloc ?_ ?_ _) | (with_reducible refine Below.setCell ?_ ?_ _) | (with_reducible refine Below.trans ?_ (Below.mono (by assumption) ?_)) | (with_reducible exact Nat.le_refl _) | (with_reducible assumption) | omega | (simp; omega) | (simp; done)))
    exact ⟨hb, hz, ⟨(hb.cell (p := ⟨K1, 0, none⟩) l0).trans c0, (hb.cell (p := ⟨K2, 0, none⟩) l1).trans d0, (hb.cell (p := ⟨K2, 1, none⟩) l1).trans d1, (hb.cell (p := ⟨K2, 2, none⟩) l1).trans d2, (hb.cell (p := ⟨K2, 3, none⟩) l1).trans d3, (hb.cell (p := ⟨K3, 0, none⟩) l2).trans e0⟩, ⟨y0, y1, y2, y3, y4, y5, y6⟩, ⟨z0, z1, z2, z3, z4, z5, z6⟩, zf⟩
  have hZ := h2.2
  clear he hf hx1 hx2 hz hy h c0 d0 d1 d2 d3 e0 h2
  go_enter Try.func44, Try.ntmps44
  go_wp2_with fail
  have HZ := Lib.hid hZ
  clear hZ
  have hz0 : ((w.alloc (eblk (m : Int) y)).alloc zeroblk).heap.size = w.heap.size + 2 := by simp
  generalize hW : (w.alloc (eblk (m : Int) y)).alloc zeroblk = W0 at *
  have HB0 : Hid (Below w.heap.size w W0) := Lib.hid (by rw [← hW]; (repeat' (first | (with_reducible assumption) | (with_reducible exact Below.refl _ _) | (with_reducible refine below_drewN ?_ _) | (with_reducible refine Below.drew ?_) | (with_reducible refine Below.alloc ?_ ?_ _) | (with_reducible refine Below.setCell ?_ ?_ _) | (with_reducible refine Below.trans ?_ (Below.mono (by assumption) ?_)) | (with_reducible exact Nat.le_refl _) | (with_reducible assumption) | omega | (simp; omega) | (simp; done))))
  clear hW
  rw [← hz0] at HKEEP
  refine region_cut' (fun a' w' => ∃ (x : Nat → Value) (wa : World), a' = { tmps := #[elE (m : Int) y, .pointer (some ⟨K1, 0, none⟩), .pointer (some ⟨K2, 0, none⟩), .pointer (some ⟨K3, 0, none⟩), .pointer (some ⟨w.heap.size, 0, none⟩), .pointer (some ⟨w.heap.size + 1, 0, none⟩), x 6, x 7, x 8, x 9, x 10, x 11, x 12, x 13, x 14], defers := [] } ∧ Below W0.heap.size W0 wa ∧ w' = putO wa (w.heap.size + 1) 0 (m : Int) u) ?_ ?_
  · intro KC hKC
    have HKC := Lib.hid hKC
    clear hKC
    refine region_inv2 (by kernel_rfl) (by kernel_rfl) (CI (fun x => { tmps := #[elE (m : Int) y, .pointer (some ⟨K1, 0, none⟩), .pointer (some ⟨K2, 0, none⟩), .pointer (some ⟨K3, 0, none⟩), .pointer (some ⟨w.heap.size, 0, none⟩), .pointer (some ⟨w.heap.size + 1, 0, none⟩), x 6, x 7, x 8, x 9, x 10, x 11, x 12, x 13, x 14], defers := [] }) W0 (cV m g n cap R S y z x1 x2 u) (w.heap.size + 1) m u) ?_ ?_ ?_
    · exact ⟨fun _ => undef, rfl, .inl ⟨rfl, by (repeat' (first | (with_reducible assumption) | (with_reducible exact Below.refl _ _) | (with_reducible refine below_drewN ?_ _) | (with_reducible refine Below.drew ?_) | (with_reducible refine Below.alloc ?_ ?_ _) | (with_reducible refine Below.setCell ?_ ?_ _) | (with_reducible refine Below.trans ?_ (Below.mono (by assumption) ?_)) | (with_reducible exact Nat.le_refl _) | (with_reducible assumption) | omega | (simp; omega) | (simp; done))), Ph.none _ _ (by decide)⟩⟩
    · intro L a' w' i o ho hi hdep hcl hI K hK
      have HK := Lib.hid hK
      clear hK
      have hi10 : i < 10 := by simpa using (Array.getElem?_eq_some_iff.1 ho).1
      obtain ⟨x, rfl, ⟨n9, hb, hph⟩ | ⟨l9', hfin⟩⟩ := hI.open
      · obtain ⟨hbl, hz', ⟨c0, k0, k1, k2, k3, e0⟩, ⟨y0, y1, y2, y3, y4, y5, y6⟩, ⟨z0, z1, z2, z3, z4, z5, z6⟩, zf⟩ := HKEEP.out _ hb
        have HPH := Lib.hid hph
        have HBW := Lib.hid hb
        have HBL := Lib.hid hbl
        have hlo := hb.size
        have N9 := Lib.hid n9
        clear hb hbl hph hcl n9
        have hcs : i = 0 ∨ i = 1 ∨ i = 2 ∨ i = 3 ∨ i = 4 ∨ i = 5 ∨ i = 6 ∨ i = 7 ∨ i = 8 ∨ i = 9 := by omega
        clear hi10
        rcases hcs with rfl | rfl | rfl | rfl | rfl | rfl | rfl | rfl | rfl | rfl
        · obtain rfl := Option.some.inj ho
          clear ho
          clear hdep
          go_simp
          refine HK.out _ _ (CI.mk1 (sv x 6 (elE (m : Int) y)) rfl (by omega) N9.out HBW.out (HPH.out.step (i := 0) (fun _ _ h => h) (csl_ne 0 (by omega)) (fun k hk => sv_ne hk) rfl))
        · obtain rfl := Option.some.inj ho
          clear ho
          clear hdep
          go_simp
          refine HK.out _ _ (CI.mk1 (sv x 7 (.int .i64 R)) rfl (by omega) N9.out HBW.out (HPH.out.step (i := 1) (fun _ _ h => h) (csl_ne 1 (by omega)) (fun k hk => sv_ne hk) rfl))
        · obtain rfl := Option.some.inj ho
          clear ho
          have d0 := HPH.out 0 (by omega) (hdep ⟨0, .data⟩ (by simp) rfl)
          have d1 := HPH.out 1 (by omega) (hdep ⟨1, .data⟩ (by simp) rfl)
          replace d0 : x 6 = elE (m : Int) y := d0
          replace d1 : x 7 = .int .i64 R := d1
          have hy0 : (sv x 6 (elE (m : Int) y)) = x := sv_same d0
          have hy1 : (sv (sv x 6 (elE (m : Int) y)) 7 (.int .i64 R)) = x := by rw [hy0]; exact sv_same d1
          have HY := Lib.hid hy1
          rw [d0, d1]
          clear hy0 hy1 d0 d1
          clear hdep
          go_simp
          refine (HP1.out _).mono ?_
          rintro e w2 ⟨rfl, hb2⟩
          go_wp2_with fail
          refine HK.out _ _ (CI.mk1 (sv (sv (sv x 6 (elE (m : Int) y)) 7 (.int .i64 R)) 8 (elE (m : Int) x1)) rfl (by omega) N9.out (HBW.out.trans (hb2.mono hlo)) (HPH.out.step (i := 2) (fun _ _ h => h) (csl_ne 2 (by omega)) (fun k hk => (sv_ne hk).trans (by rw [HY.out])) rfl))
        · obtain rfl := Option.some.inj ho
          clear ho
          clear hdep
          go_simp
          refine HK.out _ _ (CI.mk1 (sv x 9 (polyE (m : Int) (.slice (some ⟨g, 0, none⟩) n cap))) rfl (by omega) N9.out HBW.out (HPH.out.step (i := 3) (fun _ _ h => h) (csl_ne 3 (by omega)) (fun k hk => sv_ne hk) rfl))
        · obtain rfl := Option.some.inj ho
          clear ho
          clear hdep
          go_simp
          refine HK.out _ _ (CI.mk1 (sv x 10 (elE (m : Int) y)) rfl (by omega) N9.out HBW.out (HPH.out.step (i := 4) (fun _ _ h => h) (csl_ne 4 (by omega)) (fun k hk => sv_ne hk) rfl))
        · obtain rfl := Option.some.inj ho
          clear ho
          have d3 := HPH.out 3 (by omega) (hdep ⟨3, .data⟩ (by simp) rfl)
          have d4 := HPH.out 4 (by omega) (hdep ⟨4, .data⟩ (by simp) rfl)
          replace d3 : x 9 = polyE (m : Int) (.slice (some ⟨g, 0, none⟩) n cap) := d3
          replace d4 : x 10 = elE (m : Int) y := d4
          have hy0 : (sv x 9 (polyE (m : Int) (.slice (some ⟨g, 0, none⟩) n cap))) = x := sv_same d3
          have hy1 : (sv (sv x 9 (polyE (m : Int) (.slice (some ⟨g, 0, none⟩) n cap))) 10 (elE (m : Int) y)) = x := by rw [hy0]; exact sv_same d4
          have HY := Lib.hid hy1
          rw [d3, d4]
          clear hy0 hy1 d3 d4
          clear hdep
          go_simp
          refine (HA.out _ HBL.out).mono ?_
          rintro e w2 ⟨rfl, hb2⟩
          go_wp2_with fail
          refine HK.out _ _ (CI.mk1 (sv (sv (sv x 9 (polyE (m : Int) (.slice (some ⟨g, 0, none⟩) n cap))) 10 (elE (m : Int) y)) 11 (elE (m : Int) z)) rfl (by omega) N9.out (HBW.out.trans (hb2.mono hlo)) (HPH.out.step (i := 5) (fun _ _ h => h) (csl_ne 5 (by omega)) (fun k hk => (sv_ne hk).trans (by rw [HY.out])) rfl))
        · obtain rfl := Option.some.inj ho
          clear ho
          clear hdep
          go_simp
          refine HK.out _ _ (CI.mk1 (sv x 12 (.int .i64 S)) rfl (by omega) N9.out HBW.out (HPH.out.step (i := 6) (fun _ _ h => h) (csl_ne 6 (by omega)) (fun k hk => sv_ne hk) rfl))
        · obtain rfl := Option.some.inj ho
          clear ho
          have d5 := HPH.out 5 (by omega) (hdep ⟨5, .data⟩ (by simp) rfl)
          have d6 := HPH.out 6 (by omega) (hdep ⟨6, .data⟩ (by simp) rfl)
          replace d5 : x 11 = elE (m : Int) z := d5
          replace d6 : x 12 = .int .i64 S := d6
          have hy0 : (sv x 11 (elE (m : Int) z)) = x := sv_same d5
          have hy1 : (sv (sv x 11 (elE (m : Int) z)) 12 (.int .i64 S)) = x := by rw [hy0]; exact sv_same d6
          have HY := Lib.hid hy1
          rw [d5, d6]
          clear hy0 hy1 d5 d6
          clear hdep
          go_simp
          refine (HP2.out _).mono ?_
          rintro e w2 ⟨rfl, hb2⟩
          go_wp2_with fail
          refine HK.out _ _ (CI.mk1 (sv (sv (sv x 11 (elE (m : Int) z)) 12 (.int .i64 S)) 13 (elE (m : Int) x2)) rfl (by omega) N9.out (HBW.out.trans (hb2.mono hlo)) (HPH.out.step (i := 7) (fun _ _ h => h) (csl_ne 7 (by omega)) (fun k hk => (sv_ne hk).trans (by rw [HY.out])) rfl))
        · obtain rfl := Option.some.inj ho
          clear ho
          have d2 := HPH.out 2 (by omega) (hdep ⟨2, .data⟩ (by simp) rfl)
          have d7 := HPH.out 7 (by omega) (hdep ⟨7, .data⟩ (by simp) rfl)
          replace d2 : x 8 = elE (m : Int) x1 := d2
          replace d7 : x 13 = elE (m : Int) x2 := d7
          have hy0 : (sv x 8 (elE (m : Int) x1)) = x := sv_same d2
          have hy1 : (sv (sv x 8 (elE (m : Int) x1)) 13 (elE (m : Int) x2)) = x := by rw [hy0]; exact sv_same d7
          have HY := Lib.hid hy1
          rw [d2, d7]
          clear hy0 hy1 d2 d7
          clear hdep
          go_simp
          refine (HT.out _).mono ?_
          rintro e w2 ⟨rfl, hb2⟩
          go_wp2_with fail
          refine HK.out _ _ (CI.mk1 (sv (sv (sv x 8 (elE (m : Int) x1)) 13 (elE (m : Int) x2)) 14 (elE (m : Int) u)) rfl (by omega) N9.out (HBW.out.trans (hb2.mono hlo)) (HPH.out.step (i := 8) (fun _ _ h => h) (csl_ne 8 (by omega)) (fun k hk => (sv_ne hk).trans (by rw [HY.out])) rfl))
        · obtain rfl := Option.some.inj ho
          clear ho
          have d8 := HPH.out 8 (by omega) (hdep ⟨8, .data⟩ (by simp) rfl)
          have L9 : Hid ((L.setIfInBounds 9 true).getD 9 false = true) := Lib.hid (set_done hi)
          replace d8 : x 14 = elE (m : Int) u := d8
          have hy0 : (sv x 14 (elE (m : Int) u)) = x := sv_same d8
          have HY := Lib.hid hy0
          rw [d8]
          clear hy0 d8
          clear hdep
          go_simp
          refine HK.out _ (putO w' (w.heap.size + 1) 0 (m : Int) u) ⟨sv x 14 (elE (m : Int) u), rfl, .inr ⟨L9.out, w', HBW.out, rfl⟩⟩
      · have l8' := hcl 9 _ rfl l9' ⟨8, .data⟩ (by simp) rfl
        have l2' := hcl 8 _ rfl l8' ⟨2, .data⟩ (by simp) rfl
        have l7' := hcl 8 _ rfl l8' ⟨7, .data⟩ (by simp) rfl
        have l0' := hcl 2 _ rfl l2' ⟨0, .data⟩ (by simp) rfl
        have l1' := hcl 2 _ rfl l2' ⟨1, .data⟩ (by simp) rfl
        have l5' := hcl 7 _ rfl l7' ⟨5, .data⟩ (by simp) rfl
        have l6' := hcl 7 _ rfl l7' ⟨6, .data⟩ (by simp) rfl
        have l3' := hcl 5 _ rfl l5' ⟨3, .data⟩ (by simp) rfl
        have l4' := hcl 5 _ rfl l5' ⟨4, .data⟩ (by simp) rfl
        have hcs : i = 0 ∨ i = 1 ∨ i = 2 ∨ i = 3 ∨ i = 4 ∨ i = 5 ∨ i = 6 ∨ i = 7 ∨ i = 8 ∨ i = 9 := by omega
        rcases hcs with rfl | rfl | rfl | rfl | rfl | rfl | rfl | rfl | rfl | rfl
        · exact (not_done hi l0').elim
        · exact (not_done hi l1').elim
        · exact (not_done hi l2').elim
        · exact (not_done hi l3').elim
        · exact (not_done hi l4').elim
        · exact (not_done hi l5').elim
        · exact (not_done hi l6').elim
        · exact (not_done hi l7').elim
        · exact (not_done hi l8').elim
        · exact (not_done hi l9').elim
    · intro L a' w' hall hI
      obtain ⟨x, rfl, ⟨n9, _⟩ | ⟨_, wa, hb, hw⟩⟩ := hI.open
      · exact (not_done n9 (hall 9 (by decide))).elim
      · exact HKC.out _ _ ⟨x, wa, rfl, hb, hw⟩
  · rintro _ _ ⟨x, wa, rfl, hb, rfl⟩
    have hq : wa.heap[w.heap.size + 1]? = some zeroblk := (hb.block _ (by omega)).trans HZ.out
    obtain ⟨s0, s1, s2, s3, s4, s5, s6, sf, sl⟩ := seven hq
    have hb0 := HB0.out
    have hbz := hb0.size
    go_wp2_with fail
    refine bodyPost_ret (v := elE (m : Int) u) (by simp [results, Try.results44, go_sem, s0, s1, s2, s3, s4, s5, s6]) rfl ⟨rfl, ?_⟩
    (repeat' (first | (with_reducible assumption) | (with_reducible exact Below.refl _ _) | (with_reducible refine below_drewN ?_ _) | (with_reducible refine Below.drew ?_) | (with_reducible refine Below.alloc ?_ ?_ _) | (with_reducible refine Below.setCell ?_ ?_ _) | (with_reducible refine Below.trans ?_ (Below.mono (by assumption) ?_)) | (with_reducible exact Nat.le_refl _) | (with_reducible assumption) | omega | (simp; omega) | (simp; done)))
end Go.Proofs.Ytkjpkdecoeoghaa
