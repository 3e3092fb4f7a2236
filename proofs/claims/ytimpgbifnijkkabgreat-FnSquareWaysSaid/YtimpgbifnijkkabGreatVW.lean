/- WaysComplete and CountWaysComplete, of both, by contracts; the walks of their laws. -/
import Derived.Test.YtimpgbifnijkkabGreatNM
import Derived.Test.YtimpgbifnijkkabGreatTB
import Derived.Test.YtimpgbifnijkkabGreatKM
import Derived.Deep.RegionHeld3
namespace Go.Proofs.YtimpgbifnijkkabGreat
open Go.RowKit
theorem region_cutW {P : Program} {c : Code} {Q : Exit → Act → World → Prop} {a : Act} {w : World} (R : Act → Act → World → Prop) (h0 : ∀ K : Act → World → Prop, (∀ a' w', R a a' w' → K a' w') → c.wp P (Exit.then K Q) a w) (h : ∀ a' w', R a a' w' → Q .normal a' w') : c.wp P Q a w :=
  Code.wp_mono (fun e a' w' hr => by
    cases e with
    | normal => exact h a' w' hr
    | _ => exact hr) (h0 (fun a' w' => R a a' w') fun _ _ h => h)
/-- The ways of squares and others are complete. -/
def wcp (m : Nat) (a b : Int) : Bool := nsq m (mulF m a b) && nsq m (mulF m (addF m a 1) (addF m b 1))
set_option maxRecDepth 100000 in
set_option maxHeartbeats 4000000 in
/-- spec.cmWays. -/
theorem cmWays_any (m : Nat) (a b : Int) (w : World) (h : isSz (m : Int) = true) (ho : (m : Int) % 2 = 1) (ea : El (m : Int) a) (eb : El (m : Int) b) :
    Calls Tryz.prog 36 #[.int .i64 m, .int .i64 a, .int .i64 b] w fun e w' => e = .returned (.bool (wcp m a b)) ∧ Below w.heap.size w w' := by
  have e1 := El.one h
  have em := El.mul h ea eb
  have ea1 := El.add h ea e1
  have eb1 := El.add h eb e1
  have em1 := El.mul h ea1 eb1
  have HT := Lib.hid (fun w => fdTimes_any (m : Int) a b w h ea.1 ea.2 eb.1 eb.2)
  have HS := Lib.hid (fun w => kdSquare_any m (mulF m a b) w h ho em.1 em.2)
  have HPA := Lib.hid (fun w => fdPlus_any (m : Int) a 1 w h ea.1 ea.2 e1.1 e1.2)
  have HPB := Lib.hid (fun w => fdPlus_any (m : Int) b 1 w h eb.1 eb.2 e1.1 e1.2)
  have HT1 := Lib.hid (fun w => fdTimes_any (m : Int) (addF m a 1) (addF m b 1) w h ea1.1 ea1.2 eb1.1 eb1.2)
  have HS1 := Lib.hid (fun w => kdSquare_any m (mulF m (addF m a 1) (addF m b 1)) w h ho em1.1 em1.2)
  have HE : Hid (wcp m a b = (nsq m (mulF m a b) && nsq m (mulF m (addF m a 1) (addF m b 1)))) := Lib.hid rfl
  rw [HE.out]
  clear h ho ea eb e1 em ea1 eb1 em1 HE
  generalize nsq m (mulF m (addF m a 1) (addF m b 1)) = r2 at *
  generalize mulF (m : Int) (addF m a 1) (addF m b 1) = x2 at *
  generalize nsq m (mulF m a b) = r1 at *
  generalize mulF (m : Int) a b = x1 at *
  generalize addF (m : Int) a 1 = a1 at *
  generalize addF (m : Int) b 1 = b1 at *
  cases r1 with
  | false =>
    go_enter Tryz.func36, Tryz.ntmps36
    go_wp2_with fail
    refine (HT.out _).mono ?_
    rintro e w1 ⟨rfl, hb1⟩
    have hz_hb1 := hb1.size; (try simp at hz_hb1)
    go_wp2_with fail
    refine (HS.out _).mono ?_
    rintro e w2 ⟨rfl, hb2⟩
    go_wp2
    go_ret
    exact ⟨rfl, by (repeat' (first | (with_reducible assumption) | (with_reducible exact Below.refl _ _) | (with_reducible refine below_drewN ?_ _) | (with_reducible refine Below.drew ?_) | (with_reducible refine Below.alloc ?_ ?_ _) | (with_reducible refine Below.setCell ?_ ?_ _) | (with_reducible refine Below.trans ?_ (Below.mono (by assumption) ?_)) | (with_reducible exact Nat.le_refl _) | (with_reducible assumption) | omega | (simp; omega) | (simp; done)))⟩
  | true =>
    go_enter Tryz.func36, Tryz.ntmps36
    go_wp2_with fail
    refine (HT.out _).mono ?_
    rintro e w1 ⟨rfl, hb1⟩
    have hz_hb1 := hb1.size; (try simp at hz_hb1)
    go_wp2_with fail
    refine (HS.out _).mono ?_
    rintro e w2 ⟨rfl, hb2⟩
    have hz_hb2 := hb2.size; (try simp at hz_hb2)
    go_wp2_with fail
    refine (HPA.out _).mono ?_
    rintro e w3 ⟨rfl, hb3⟩
    have hz_hb3 := hb3.size; (try simp at hz_hb3)
    go_wp2_with fail
    refine (HPB.out _).mono ?_
    rintro e w4 ⟨rfl, hb4⟩
    have hz_hb4 := hb4.size; (try simp at hz_hb4)
    go_wp2_with fail
    refine (HT1.out _).mono ?_
    rintro e w5 ⟨rfl, hb5⟩
    have hz_hb5 := hb5.size; (try simp at hz_hb5)
    go_wp2_with fail
    refine (HS1.out _).mono ?_
    rintro e w6 ⟨rfl, hb6⟩
    go_wp2
    go_ret
    exact ⟨rfl, by (repeat' (first | (with_reducible assumption) | (with_reducible exact Below.refl _ _) | (with_reducible refine below_drewN ?_ _) | (with_reducible refine Below.drew ?_) | (with_reducible refine Below.alloc ?_ ?_ _) | (with_reducible refine Below.setCell ?_ ?_ _) | (with_reducible refine Below.trans ?_ (Below.mono (by assumption) ?_)) | (with_reducible exact Nat.le_refl _) | (with_reducible assumption) | omega | (simp; omega) | (simp; done)))⟩
set_option maxRecDepth 100000 in
set_option maxHeartbeats 4000000 in
/-- impl.element.waysComplete. -/
theorem waysCompleteE (m : Nat) (a b : Int) (w : World) (h : isSz (m : Int) = true) (ea : El (m : Int) a) (eb : El (m : Int) b) :
    Calls Tryz.prog 35 #[elE (m : Int) a, elE (m : Int) b] w fun e w' => e = .returned (.bool (wcp m a b)) ∧ Below w.heap.size w w' := by
  have e1 := El.one h
  have em := El.mul h ea eb
  have ea1 := El.add h ea e1
  have eb1 := El.add h eb e1
  have em1 := El.mul h ea1 eb1
  have HON := Lib.hid (fun w => oneE (m : Int) w h)
  have HT := Lib.hid (fun w => timesE (m : Int) a b w h ea.1 ea.2 eb.1 eb.2)
  have HS := Lib.hid (fun w => nonzeroSqE m (mulF m a b) w h em.1 em.2)
  have HPA := Lib.hid (fun w => plusE (m : Int) a 1 w h ea.1 ea.2 e1.1 e1.2)
  have HPB := Lib.hid (fun w => plusE (m : Int) b 1 w h eb.1 eb.2 e1.1 e1.2)
  have HT1 := Lib.hid (fun w => timesE (m : Int) (addF m a 1) (addF m b 1) w h ea1.1 ea1.2 eb1.1 eb1.2)
  have HS1 := Lib.hid (fun w => nonzeroSqE m (mulF m (addF m a 1) (addF m b 1)) w h em1.1 em1.2)
  have HE : Hid (wcp m a b = (nsq m (mulF m a b) && nsq m (mulF m (addF m a 1) (addF m b 1)))) := Lib.hid rfl
  rw [HE.out]
  clear h ea eb e1 em ea1 eb1 em1 HE
  generalize nsq m (mulF m (addF m a 1) (addF m b 1)) = r2 at *
  generalize mulF (m : Int) (addF m a 1) (addF m b 1) = x2 at *
  generalize nsq m (mulF m a b) = r1 at *
  generalize mulF (m : Int) a b = x1 at *
  generalize addF (m : Int) a 1 = a1 at *
  generalize addF (m : Int) b 1 = b1 at *
  go_enter Tryz.func35, Tryz.ntmps35
  go_wp2_with fail
  refine (HON.out _).mono ?_
  rintro e w1 ⟨rfl, hb1⟩
  have hz1 := hb1.size
  simp at hz1
  have hbw1 : Below (w.heap.size + 2) ((w.alloc (eblk (m : Int) a)).alloc (eblk (m : Int) b)) w1 := hb1.mono (by simp)
  have HBW1 : Hid (Below w.heap.size w w1) := Lib.hid (by (repeat' (first | (with_reducible assumption) | (with_reducible exact Below.refl _ _) | (with_reducible refine below_drewN ?_ _) | (with_reducible refine Below.drew ?_) | (with_reducible refine Below.alloc ?_ ?_ _) | (with_reducible refine Below.setCell ?_ ?_ _) | (with_reducible refine Below.trans ?_ (Below.mono (by assumption) ?_)) | (with_reducible exact Nat.le_refl _) | (with_reducible assumption) | omega | (simp; omega) | (simp; done))))
  have HKEEP : Hid (∀ w', Below (w1.heap.size + 1) (w1.alloc (eblk (m : Int) 1)) w' → w'.cell? ⟨w.heap.size, 0, none⟩ = some (.int .i64 m) ∧ w'.cell? ⟨w.heap.size, 1, none⟩ = some (.int .i64 (pr m)) ∧ w'.cell? ⟨w.heap.size, 2, none⟩ = some (.int .i64 (pl m)) ∧ w'.cell? ⟨w.heap.size, 3, none⟩ = some (.int .i64 (dg m a 0)) ∧ w'.cell? ⟨w.heap.size, 4, none⟩ = some (.int .i64 (dg m a 1)) ∧ w'.cell? ⟨w.heap.size, 5, none⟩ = some (.int .i64 (dg m a 2)) ∧ w'.cell? ⟨w.heap.size, 6, none⟩ = some (.int .i64 (dg m a 3)) ∧ w'.cell? ⟨w.heap.size + 1, 0, none⟩ = some (.int .i64 m) ∧ w'.cell? ⟨w.heap.size + 1, 1, none⟩ = some (.int .i64 (pr m)) ∧ w'.cell? ⟨w.heap.size + 1, 2, none⟩ = some (.int .i64 (pl m)) ∧ w'.cell? ⟨w.heap.size + 1, 3, none⟩ = some (.int .i64 (dg m b 0)) ∧ w'.cell? ⟨w.heap.size + 1, 4, none⟩ = some (.int .i64 (dg m b 1)) ∧ w'.cell? ⟨w.heap.size + 1, 5, none⟩ = some (.int .i64 (dg m b 2)) ∧ w'.cell? ⟨w.heap.size + 1, 6, none⟩ = some (.int .i64 (dg m b 3)) ∧ w'.cell? ⟨w1.heap.size, 0, none⟩ = some (.int .i64 m) ∧ w'.cell? ⟨w1.heap.size, 1, none⟩ = some (.int .i64 (pr m)) ∧ w'.cell? ⟨w1.heap.size, 2, none⟩ = some (.int .i64 (pl m)) ∧ w'.cell? ⟨w1.heap.size, 3, none⟩ = some (.int .i64 (dg m 1 0)) ∧ w'.cell? ⟨w1.heap.size, 4, none⟩ = some (.int .i64 (dg m 1 1)) ∧ w'.cell? ⟨w1.heap.size, 5, none⟩ = some (.int .i64 (dg m 1 2)) ∧ w'.cell? ⟨w1.heap.size, 6, none⟩ = some (.int .i64 (dg m 1 3))) := Lib.hid fun w' hb => by
    obtain ⟨t0, t1⟩ := two w (eblk (m : Int) a) (eblk (m : Int) b)
    obtain ⟨x0, x1, x2, x3, x4, x5, x6, _⟩ := seven ((hb.block w.heap.size (by omega)).trans ((Below.heap_alloc _ _ _ (by omega)).trans ((hbw1.block w.heap.size (by omega)).trans t0)))
    obtain ⟨y0, y1, y2, y3, y4, y5, y6, _⟩ := seven ((hb.block (w.heap.size + 1) (by omega)).trans ((Below.heap_alloc _ _ _ (by omega)).trans ((hbw1.block (w.heap.size + 1) (by omega)).trans t1)))
    obtain ⟨z0, z1, z2, z3, z4, z5, z6, _⟩ := seven ((hb.block w1.heap.size (by omega)).trans (heap_alloc_new w1 _))
    exact ⟨x0, x1, x2, x3, x4, x5, x6, y0, y1, y2, y3, y4, y5, y6, z0, z1, z2, z3, z4, z5, z6⟩
  clear hb1 hbw1
  go_wp2_with fail
  refine region_cutW (fun a a' w' => ∃ (B4 : Nat) (u10 u11 u12 u13 u14 u15 u16 : Value), a' = (((((((a.put (some 6) (.pointer (some ⟨B4, 0, none⟩))).put (some 10) u10).put (some 11) u11).put (some 12) u12).put (some 13) u13).put (some 14) u14).put (some 15) u15).put (some 16) u16 ∧ w'.heap[B4]? = some (eblk (m : Int) x2) ∧ Below (w1.heap.size + 1) (w1.alloc (eblk (m : Int) 1)) w') ?_ ?_
  · intro KC hKC
    have HKC := Lib.hid hKC
    clear hKC
    go_region_held3 (fun w' => w'.cell? ⟨w.heap.size, 0, none⟩ = some (.int .i64 m) ∧ w'.cell? ⟨w.heap.size, 1, none⟩ = some (.int .i64 (pr m)) ∧ w'.cell? ⟨w.heap.size, 2, none⟩ = some (.int .i64 (pl m)) ∧ w'.cell? ⟨w.heap.size, 3, none⟩ = some (.int .i64 (dg m a 0)) ∧ w'.cell? ⟨w.heap.size, 4, none⟩ = some (.int .i64 (dg m a 1)) ∧ w'.cell? ⟨w.heap.size, 5, none⟩ = some (.int .i64 (dg m a 2)) ∧ w'.cell? ⟨w.heap.size, 6, none⟩ = some (.int .i64 (dg m a 3)) ∧ w'.cell? ⟨w.heap.size + 1, 0, none⟩ = some (.int .i64 m) ∧ w'.cell? ⟨w.heap.size + 1, 1, none⟩ = some (.int .i64 (pr m)) ∧ w'.cell? ⟨w.heap.size + 1, 2, none⟩ = some (.int .i64 (pl m)) ∧ w'.cell? ⟨w.heap.size + 1, 3, none⟩ = some (.int .i64 (dg m b 0)) ∧ w'.cell? ⟨w.heap.size + 1, 4, none⟩ = some (.int .i64 (dg m b 1)) ∧ w'.cell? ⟨w.heap.size + 1, 5, none⟩ = some (.int .i64 (dg m b 2)) ∧ w'.cell? ⟨w.heap.size + 1, 6, none⟩ = some (.int .i64 (dg m b 3)) ∧ w'.cell? ⟨w1.heap.size, 0, none⟩ = some (.int .i64 m) ∧ w'.cell? ⟨w1.heap.size, 1, none⟩ = some (.int .i64 (pr m)) ∧ w'.cell? ⟨w1.heap.size, 2, none⟩ = some (.int .i64 (pl m)) ∧ w'.cell? ⟨w1.heap.size, 3, none⟩ = some (.int .i64 (dg m 1 0)) ∧ w'.cell? ⟨w1.heap.size, 4, none⟩ = some (.int .i64 (dg m 1 1)) ∧ w'.cell? ⟨w1.heap.size, 5, none⟩ = some (.int .i64 (dg m 1 2)) ∧ w'.cell? ⟨w1.heap.size, 6, none⟩ = some (.int .i64 (dg m 1 3)))
      (exact HKEEP.out _ (by (try have hb12 := HB12.out); (try have hb15 := HB15.out); (try have hb16 := HB16.out); (repeat' (first | (with_reducible assumption) | (with_reducible exact Below.refl _ _) | (with_reducible refine below_drewN ?_ _) | (with_reducible refine Below.drew ?_) | (with_reducible refine Below.alloc ?_ ?_ _) | (with_reducible refine Below.setCell ?_ ?_ _) | (with_reducible refine Below.trans ?_ (Below.mono (by assumption) ?_)) | (with_reducible exact Nat.le_refl _) | (with_reducible assumption) | omega | (simp; omega) | (simp; done)))))
      (first
      | (go_at_call_of 57 (Value.int .i64 (dg m a 0)); refine (HPA.out _).mono ?_; rintro e w12 ⟨rfl, hb12⟩; obtain ⟨hc12, hf12⟩ := bcell hb12; (try simp only [World.size_drew] at hc12 hf12); have hz12 := hb12.size; (try simp at hz12); have HB12 := Lib.hid hb12; clear hb12; (try have l12 : w1.heap.size + 1 < w12.heap.size := (by omega)); (try have l12_w15 : w15.heap.size < w12.heap.size := (by omega)); (try have l12_w16 : w16.heap.size < w12.heap.size := (by omega)))
      | (go_at_call_of 57 (Value.int .i64 (dg m b 0)); refine (HPB.out _).mono ?_; rintro e w15 ⟨rfl, hb15⟩; obtain ⟨hc15, hf15⟩ := bcell hb15; (try simp only [World.size_drew] at hc15 hf15); have hz15 := hb15.size; (try simp at hz15); have HB15 := Lib.hid hb15; clear hb15; (try have l15 : w1.heap.size + 1 < w15.heap.size := (by omega)); (try have l15_w12 : w12.heap.size < w15.heap.size := (by omega)); (try have l15_w16 : w16.heap.size < w15.heap.size := (by omega)))
      | (go_at_call 26; refine (HT1.out _).mono ?_; rintro e w16 ⟨rfl, hb16⟩; obtain ⟨hc16, hf16⟩ := bcell hb16; (try simp only [World.size_drew] at hc16 hf16); have hz16 := hb16.size; (try simp at hz16); have HB16 := Lib.hid hb16; clear hb16; (try have l16 : w1.heap.size + 1 < w16.heap.size := (by omega)); (try have l16_w12 : w12.heap.size < w16.heap.size := (by omega)); (try have l16_w15 : w15.heap.size < w16.heap.size := (by omega))))
    all_goals
      have hb12 := HB12.out
      have hb15 := HB15.out
      have hb16 := HB16.out
      refine HKC.out _ _ ?_
      simp only [Act.put, List.setIfInBounds_toArray, List.set_cons_zero, List.set_cons_succ]
      refine ⟨_, _, _, _, _, _, _, _, rfl, ?_, by (repeat' (first | (with_reducible assumption) | (with_reducible exact Below.refl _ _) | (with_reducible refine below_drewN ?_ _) | (with_reducible refine Below.drew ?_) | (with_reducible refine Below.alloc ?_ ?_ _) | (with_reducible refine Below.setCell ?_ ?_ _) | (with_reducible refine Below.trans ?_ (Below.mono (by assumption) ?_)) | (with_reducible exact Nat.le_refl _) | (with_reducible assumption) | omega | (simp; omega) | (simp; done)))⟩
      first
      | with_reducible exact heap_alloc_new _ _
      | (refine put7_same _ _ _ _ (.int .i64 0) (.int .i64 0) (.int .i64 0) (.int .i64 0) (.int .i64 0) (.int .i64 0) (.int .i64 0) ?_
         repeat' (first
           | with_reducible exact heap_alloc_new _ _
           | with_reducible refine (hb16.block _ ?_).trans ?_
           | with_reducible refine (hb15.block _ ?_).trans ?_
           | with_reducible refine (hb12.block _ ?_).trans ?_
           | omega
           | (simp; omega)
           | (simp; done)
           | with_reducible refine (drew_heap' _ _).trans ?_
           | (rw [show w1.heap.size + 1 = (w1.alloc (eblk (m : Int) 1)).heap.size from by simp]; exact heap_alloc_new _ _)
           | exact heap_alloc_new w1.drew _))
  · rintro _ W4 ⟨B4, u10, u11, u12, u13, u14, u15, u16, rfl, hb4, hbW⟩
    simp only [Act.put, List.setIfInBounds_toArray, List.set_cons_zero, List.set_cons_succ]
    obtain ⟨x0, x1, x2', x3, x4, x5, x6, y0, y1, y2, y3, y4, y5, y6, _⟩ := HKEEP.out _ hbW
    have hB4 : B4 < W4.heap.size := (Array.getElem?_eq_some_iff.1 hb4).1
    have hzW := hbW.size
    simp at hzW
    have HW4 : Hid (Below w.heap.size w W4) := Lib.hid (by have hb1 := HBW1.out; (repeat' (first | (with_reducible assumption) | (with_reducible exact Below.refl _ _) | (with_reducible refine below_drewN ?_ _) | (with_reducible refine Below.drew ?_) | (with_reducible refine Below.alloc ?_ ?_ _) | (with_reducible refine Below.setCell ?_ ?_ _) | (with_reducible refine Below.trans ?_ (Below.mono (by assumption) ?_)) | (with_reducible exact Nat.le_refl _) | (with_reducible assumption) | omega | (simp; omega) | (simp; done))))
    have HB4 := Lib.hid hb4
    have HS' := HS.out
    clear hbW hb4 HKEEP HPA HPB HT1
    cases r1 with
    | false =>
      go_wp2_with fail
      refine (HT.out _).mono ?_
      rintro e w5 ⟨rfl, hb5⟩
      have hz5 := hb5.size
      go_wp2_with fail
      refine (HS' _).mono ?_
      rintro e w6 ⟨rfl, hb6⟩
      go_wp2
      go_ret
      have hb4 := HW4.out
      exact ⟨rfl, by (repeat' (first | (with_reducible assumption) | (with_reducible exact Below.refl _ _) | (with_reducible refine below_drewN ?_ _) | (with_reducible refine Below.drew ?_) | (with_reducible refine Below.alloc ?_ ?_ _) | (with_reducible refine Below.setCell ?_ ?_ _) | (with_reducible refine Below.trans ?_ (Below.mono (by assumption) ?_)) | (with_reducible exact Nat.le_refl _) | (with_reducible assumption) | omega | (simp; omega) | (simp; done)))⟩
    | true =>
      go_wp2_with fail
      refine (HT.out _).mono ?_
      rintro e w5 ⟨rfl, hb5⟩
      have hz5 := hb5.size
      go_wp2_with fail
      refine (HS' _).mono ?_
      rintro e w6 ⟨rfl, hb6⟩
      have hz6 := hb6.size
      obtain ⟨c0, c1, c2, c3, c4, c5, c6, cf, cl⟩ := seven ((hb6.block B4 (by omega)).trans ((hb5.block B4 (by omega)).trans HB4.out))
      go_wp2_with fail
      refine (HS1.out _).mono ?_
      rintro e w7 ⟨rfl, hb7⟩
      go_wp2
      go_ret
      have hb4 := HW4.out
      exact ⟨rfl, by (repeat' (first | (with_reducible assumption) | (with_reducible exact Below.refl _ _) | (with_reducible refine below_drewN ?_ _) | (with_reducible refine Below.drew ?_) | (with_reducible refine Below.alloc ?_ ?_ _) | (with_reducible refine Below.setCell ?_ ?_ _) | (with_reducible refine Below.trans ?_ (Below.mono (by assumption) ?_)) | (with_reducible exact Nat.le_refl _) | (with_reducible assumption) | omega | (simp; omega) | (simp; done)))⟩
set_option maxHeartbeats 1000000 in
theorem spec_WaysComplete_yes (m : Nat) (a b : Int) (w : World) (hd : odp (m : Int) a b = true) (h : isSz (m : Int) = true) (ho : (m : Int) % 2 = 1) (ha : inE (m : Int) a = true) (hb : inE (m : Int) b = true) :
    Calls Tryz.prog 11 #[.int .i64 m, .int .i64 a, .int .i64 b] w fun e w' => e = .returned (.tuple #[.bool (wcp m a b), .bool true]) ∧ Below w.heap.size w w' := by
  obtain ⟨_, a0, a1⟩ := inE_yes ha
  obtain ⟨_, b0, b1⟩ := inE_yes hb
  have HO := Lib.hid (fun w => kdOdd_any (m : Int) a b w)
  rw [hd] at HO
  have HS := Lib.hid (fun w => cmWays_any m a b w h ho ⟨a0, a1⟩ ⟨b0, b1⟩)
  clear h ha hb hd ho
  generalize wcp m a b = r at *
  go_enter Tryz.func11, Tryz.ntmps11
  go_wp2_with fail
  refine (HO.out _).mono ?_
  rintro e w1 ⟨rfl, hb1⟩
  obtain ⟨hc1, hf1⟩ := bcell hb1; have hz1 := hb1.size; (try simp at hz1); have HB1 := Lib.hid hb1; clear hb1
  go_wp2_with fail
  refine (HS.out _).mono ?_
  rintro e w3 ⟨rfl, hb3⟩
  obtain ⟨hc3, hf3⟩ := bcell hb3; have hz3 := hb3.size; (try simp at hz3); have HB3 := Lib.hid hb3; clear hb3
  go_wp2
  go_ret2
  have hb1 := HB1.out
  have hb3 := HB3.out
  exact ⟨rfl, by (repeat' (first | (with_reducible assumption) | (with_reducible exact Below.refl _ _) | (with_reducible refine below_drewN ?_ _) | (with_reducible refine Below.drew ?_) | (with_reducible refine Below.alloc ?_ ?_ _) | (with_reducible refine Below.setCell ?_ ?_ _) | (with_reducible refine Below.trans ?_ (Below.mono (by assumption) ?_)) | (with_reducible exact Nat.le_refl _) | (with_reducible assumption) | omega | (simp; omega) | (simp; done)))⟩
theorem spec_WaysComplete_no (q a b : Int) (w : World) (hd : odp q a b = false) :
    Calls Tryz.prog 11 #[.int .i64 q, .int .i64 a, .int .i64 b] w fun e w' => e = .returned (.tuple #[.bool false, .bool false]) ∧ Below w.heap.size w w' := by
  have HO := Lib.hid (fun w => kdOdd_any q a b w)
  rw [hd] at HO
  clear hd
  go_enter Tryz.func11, Tryz.ntmps11
  go_wp2_with fail
  refine (HO.out _).mono ?_
  rintro e w1 ⟨rfl, hb1⟩
  go_wp2
  go_ret2
  exact ⟨rfl, hb1⟩
theorem impl_WaysComplete_no (q a b : Int) (w : World) (hd : odp q a b = false) :
    Calls Tryz.prog 10 #[.int .i64 q, .int .i64 a, .int .i64 b] w fun e w' => e = .returned (.tuple #[.bool false, .bool false]) ∧ Below w.heap.size w w' := by
  have HO := Lib.hid (fun w => oddPairOf_no q a b w hd)
  clear hd
  go_enter Tryz.func10, Tryz.ntmps10
  go_wp2_with fail
  refine (HO.out _).mono ?_
  rintro e w1 ⟨rfl, hb1⟩
  obtain ⟨hc1, hf1⟩ := bcell hb1; have hz1 := hb1.size; (try simp at hz1); have HB1 := Lib.hid hb1; clear hb1
  go_wp2
  go_ret2
  have hb1 := HB1.out
  exact ⟨rfl, by (repeat' (first | (with_reducible assumption) | (with_reducible exact Below.refl _ _) | (with_reducible refine below_drewN ?_ _) | (with_reducible refine Below.drew ?_) | (with_reducible refine Below.alloc ?_ ?_ _) | (with_reducible refine Below.setCell ?_ ?_ _) | (with_reducible refine Below.trans ?_ (Below.mono (by assumption) ?_)) | (with_reducible exact Nat.le_refl _) | (with_reducible assumption) | omega | (simp; omega) | (simp; done)))⟩
set_option maxHeartbeats 2000000 in
theorem impl_WaysComplete_yes (m : Nat) (a b : Int) (w : World) (h : isSz (m : Int) = true) (ho : (m : Int) % 2 = 1) (ha : inE (m : Int) a = true) (hb : inE (m : Int) b = true) :
    Calls Tryz.prog 10 #[.int .i64 m, .int .i64 a, .int .i64 b] w fun e w' => e = .returned (.tuple #[.bool (wcp m a b), .bool true]) ∧ Below w.heap.size w w' := by
  obtain ⟨_, a0, a1⟩ := inE_yes ha
  obtain ⟨_, b0, b1⟩ := inE_yes hb
  have HO := Lib.hid (fun w => oddPairOf_yes m a b w ha hb ho)
  have HS := Lib.hid (fun w => waysCompleteE m a b w h ⟨a0, a1⟩ ⟨b0, b1⟩)
  clear h ha hb ho
  generalize wcp m a b = r at *
  go_enter Tryz.func10, Tryz.ntmps10
  go_wp2_with fail
  refine (HO.out _).mono ?_
  rintro e w1 ⟨rfl, hb1⟩
  obtain ⟨hc1, hf1⟩ := bcell hb1; have hz1 := hb1.size; (try simp at hz1); have HB1 := Lib.hid hb1; clear hb1
  go_wp2_with fail
  refine (HS.out _).mono ?_
  rintro e w3 ⟨rfl, hb3⟩
  obtain ⟨hc3, hf3⟩ := bcell hb3; have hz3 := hb3.size; (try simp at hz3); have HB3 := Lib.hid hb3; clear hb3
  go_wp2
  go_ret2
  have hb1 := HB1.out
  have hb3 := HB3.out
  exact ⟨rfl, by (repeat' (first | (with_reducible assumption) | (with_reducible exact Below.refl _ _) | (with_reducible refine below_drewN ?_ _) | (with_reducible refine Below.drew ?_) | (with_reducible refine Below.alloc ?_ ?_ _) | (with_reducible refine Below.setCell ?_ ?_ _) | (with_reducible refine Below.trans ?_ (Below.mono (by assumption) ?_)) | (with_reducible exact Nat.le_refl _) | (with_reducible assumption) | omega | (simp; omega) | (simp; done)))⟩
theorem key_WaysComplete (q a b : Int) : ∃ (r o : Bool), (∀ (w : World), Calls Tryz.prog 11 #[.int .i64 q, .int .i64 a, .int .i64 b] w fun e w' => e = .returned (.tuple #[.bool r, .bool o]) ∧ Below w.heap.size w w') ∧
      (∀ (w : World), Calls Tryz.prog 10 #[.int .i64 q, .int .i64 a, .int .i64 b] w fun e w' => e = .returned (.tuple #[.bool r, .bool o]) ∧ Below w.heap.size w w') := by
  cases h : odp q a b with
  | false => exact ⟨false, false, fun w => spec_WaysComplete_no q a b w h, fun w => impl_WaysComplete_no q a b w h⟩
  | true =>
    obtain ⟨m, rfl, hs, ho, ha, hb⟩ := odp_nat h
    exact ⟨_, true, fun w => spec_WaysComplete_yes m a b w h hs ho ha hb, fun w => impl_WaysComplete_yes m a b w hs ho ha hb⟩
/-- How many ways are complete: with a first one below i; and for i, with a second one below j. -/
def cwc (m : Nat) : Nat → Int
  | 0 => 0
  | i + 1 => cwd m (cwc m i) i m
where cwd (m : Nat) (c : Int) (i : Nat) : Nat → Int
  | 0 => c
  | j + 1 => if wcp m (i : Int) (j : Int) then cwd m c i j + 1 else cwd m c i j
theorem cwd_bd (m : Nat) (c : Int) (i : Nat) (hc : 0 ≤ c) (k : Nat) : 0 ≤ cwc.cwd m c i k ∧ cwc.cwd m c i k ≤ c + k := by
  induction k with
  | zero => exact ⟨hc, by show c ≤ c + 0; omega⟩
  | succ k ih =>
    rw [cwc.cwd]
    split <;> omega
theorem cwc_bd (m : Nat) (i : Nat) : 0 ≤ cwc m i ∧ cwc m i ≤ (i : Int) * m := by
  induction i with
  | zero => exact ⟨Int.le_refl _, by show (0 : Int) ≤ _; simp⟩
  | succ i ih =>
    have := cwd_bd m (cwc m i) i ih.1 m
    rw [cwc]
    refine ⟨this.1, ?_⟩
    have e : ((i + 1 : Nat) : Int) * m = i * m + m := by rw [Int.natCast_add, Int.add_mul]; simp
    omega
theorem mul_le16 {i m : Nat} (hm : (m : Int) ≤ 16) (hi : i ≤ m) : (i : Int) * m ≤ 256 := by
  have h1 : i * m ≤ 16 * 16 := Nat.mul_le_mul (by omega) (by omega)
  have : ((i * m : Nat) : Int) ≤ 256 := by omega
  simpa using this
theorem spec_CountWaysComplete_no (q : Int) (w : World) (h : odq q = false) :
    Calls Tryz.prog 18 #[.int .i64 q] w fun e w' => e = .returned (.tuple #[.int .i64 0, .bool false]) ∧ Below w.heap.size w w' := by
  have HO := Lib.hid (fun w => ctOdd_any q w)
  rw [h] at HO
  clear h
  go_enter Tryz.func18, Tryz.ntmps18
  go_wp2_with fail
  refine (HO.out _).mono ?_
  rintro e w1 ⟨rfl, hb1⟩
  have hz_hb1 := hb1.size; (try simp at hz_hb1)
  go_wp2_with fail
  go_ret2
  exact ⟨rfl, by (repeat' (first | (with_reducible assumption) | (with_reducible exact Below.refl _ _) | (with_reducible refine below_drewN ?_ _) | (with_reducible refine Below.drew ?_) | (with_reducible refine Below.alloc ?_ ?_ _) | (with_reducible refine Below.setCell ?_ ?_ _) | (with_reducible refine Below.trans ?_ (Below.mono (by assumption) ?_)) | (with_reducible exact Nat.le_refl _) | (with_reducible assumption) | omega | (simp; omega) | (simp; done)))⟩
theorem impl_CountWaysComplete_no1 (q : Int) (w : World) (h : isSz q = false) :
    Calls Tryz.prog 17 #[.int .i64 q] w fun e w' => e = .returned (.tuple #[.int .i64 0, .bool false]) ∧ Below w.heap.size w w' := by
  have HO := Lib.hid (fun w => fieldOf_no q w h)
  clear h
  go_enter Tryz.func17, Tryz.ntmps17
  go_wp2_with fail
  refine (HO.out _).mono ?_
  rintro e w1 ⟨rfl, hb1⟩
  have hz_hb1 := hb1.size; (try simp at hz_hb1)
  go_wp2_with fail
  go_ret2
  exact ⟨rfl, by (repeat' (first | (with_reducible assumption) | (with_reducible exact Below.refl _ _) | (with_reducible refine below_drewN ?_ _) | (with_reducible refine Below.drew ?_) | (with_reducible refine Below.alloc ?_ ?_ _) | (with_reducible refine Below.setCell ?_ ?_ _) | (with_reducible refine Below.trans ?_ (Below.mono (by assumption) ?_)) | (with_reducible exact Nat.le_refl _) | (with_reducible assumption) | omega | (simp; omega) | (simp; done)))⟩
theorem impl_CountWaysComplete_no2 (m : Nat) (w : World) (h : isSz (m : Int) = true) (ho : (m : Int) % 2 = 0) :
    Calls Tryz.prog 17 #[.int .i64 m] w fun e w' => e = .returned (.tuple #[.int .i64 0, .bool false]) ∧ Below w.heap.size w w' := by
  have hq := isSz_le (m : Int) h
  have HO := Lib.hid (fun w => fieldOf_yes (m : Int) w h)
  have hz : ((m : Int).tmod 2 == 0) = true := by rw [Int.tmod_eq_emod_of_nonneg (by omega), ho]; rfl
  have ho1 : ((m : Int) % 2 == 0) = true := by rw [ho]; rfl
  clear h ho
  go_enter Tryz.func17, Tryz.ntmps17
  go_wp2_with fail
  refine (HO.out _).mono ?_
  rintro e w1 ⟨rfl, hb1⟩
  have hz_hb1 := hb1.size; (try simp at hz_hb1)
  go_wp2_with fail
  go_ret2
  exact ⟨rfl, by (repeat' (first | (with_reducible assumption) | (with_reducible exact Below.refl _ _) | (with_reducible refine below_drewN ?_ _) | (with_reducible refine Below.drew ?_) | (with_reducible refine Below.alloc ?_ ?_ _) | (with_reducible refine Below.setCell ?_ ?_ _) | (with_reducible refine Below.trans ?_ (Below.mono (by assumption) ?_)) | (with_reducible exact Nat.le_refl _) | (with_reducible assumption) | omega | (simp; omega) | (simp; done)))⟩
set_option maxRecDepth 100000 in
set_option maxHeartbeats 4000000 in
theorem spec_CountWaysComplete_yes (m : Nat) (w : World) (h : isSz (m : Int) = true) (ho : (m : Int) % 2 = 1) :
    Calls Tryz.prog 18 #[.int .i64 m] w fun e w' => e = .returned (.tuple #[.int .i64 (cwc m m), .bool true]) ∧ Below w.heap.size w w' := by
  have hq := isSz_le (m : Int) h
  have HO := Lib.hid (fun w => ctOdd_any (m : Int) w)
  have hoq : odq (m : Int) = true := by unfold odq; rw [h, ho]; rfl
  rw [hoq] at HO
  have HW := Lib.hid (fun (i j : Nat) (hi : i < m) (hj : j < m) w => cmWays_any m (i : Int) (j : Int) w h ho (El.nat hi) (El.nat hj))
  have HC0 : Hid (cwc m 0 = 0) := Lib.hid rfl
  have HCS : Hid (∀ i, cwc.cwd m (cwc m i) i m = cwc m (i + 1)) := Lib.hid fun _ => rfl
  have HD0 : Hid (∀ i, cwc m i = cwc.cwd m (cwc m i) i 0) := Lib.hid fun _ => rfl
  have HDS : Hid (∀ i j, cwc.cwd m (cwc m i) i (j + 1) = if wcp m (i : Int) (j : Int) then cwc.cwd m (cwc m i) i j + 1 else cwc.cwd m (cwc m i) i j) := Lib.hid fun _ _ => rfl
  have HDB : Hid (∀ i j, i ≤ m → j ≤ m → 0 ≤ cwc.cwd m (cwc m i) i j ∧ cwc.cwd m (cwc m i) i j ≤ 272) := Lib.hid fun i j hi hj => by
    have h1 := cwc_bd m i
    have h2 := cwd_bd m (cwc m i) i h1.1 j
    have h3 := mul_le16 hq.2 hi
    omega
  clear h ho hoq
  obtain ⟨Y, hY⟩ : ∃ Y : Nat → Nat → Int, Y = fun i j => cwc.cwd m (cwc m i) i j := ⟨_, rfl⟩
  have HY : ∀ i j, cwc.cwd m (cwc m i) i j = Y i j := fun i j => by rw [hY]
  simp only [HY] at HCS HD0 HDS HDB
  clear hY HY
  generalize cwc m = S at *
  go_enter Tryz.func18, Tryz.ntmps18
  go_wp2_with fail
  refine (HO.out _).mono ?_
  rintro e w1 ⟨rfl, hb1⟩
  have HB1 := Lib.hid hb1; clear hb1
  go_wp2_with fail
  go_loopw [4, 5] (fun vc vi wr => ∃ i : Nat, i ≤ m ∧ vi = .int .i64 i ∧ vc = .int .i64 (S i) ∧ Below w.heap.size w wr) (fun _ vi _ => m - (intOf vi).toNat)
  case atStart => exact ⟨0, Nat.zero_le _, rfl, by rw [HC0.out], HB1.out⟩
  case round =>
    obtain ⟨i, hi, rfl, rfl, hbw⟩ := hrel
    have HBW := Lib.hid hbw; clear hbw
    by_cases hlt : i < m
    · obtain ⟨wo, rfl⟩ : ∃ x : World, x = wr := ⟨_, rfl⟩
      rw [HD0.out i]
      go_wp2_with fail
      go_loopw [4, 6] (fun vc vj wr => ∃ j : Nat, j ≤ m ∧ vj = .int .i64 j ∧ vc = .int .i64 (Y i j) ∧ Below w.heap.size w wr) (fun _ vj _ => m - (intOf vj).toNat)
      case atStart => exact ⟨0, Nat.zero_le _, rfl, rfl, HBW.out⟩
      case round =>
        obtain ⟨j, hj, rfl, rfl, hbw⟩ := hrel
        have HBJ := Lib.hid hbw; clear hbw
        by_cases hltj : j < m
        · have HWi := Lib.hid (fun w => HW.out i j hlt hltj w)
          have HDi := Lib.hid (HDS.out i j)
          have hbd := HDB.out i j hi hj
          have hw1 : IntKind.i64.wrap (Y i j + 1) = Y i j + 1 := IntWalk.i64_in _ (by omega)
          generalize wcp m (i : Int) (j : Int) = d at *
          cases d with
          | false =>
            go_wp2_with fail
            refine (HWi.out _).mono ?_
            rintro e w2 ⟨rfl, hb2⟩
            have HB2 : Hid (Below w.heap.size w w2) := Lib.hid (HBJ.out.trans (hb2.mono HBJ.out.size)); clear hb2
            go_wp2
            go_roundw
            case rel => exact ⟨j + 1, by omega, by go_num, by rw [HDi.out]; rfl, HB2.out⟩
            case measure => (simp [intOf]; try omega)
          | true =>
            go_wp2_with fail
            refine (HWi.out _).mono ?_
            rintro e w2 ⟨rfl, hb2⟩
            have HB2 : Hid (Below w.heap.size w w2) := Lib.hid (HBJ.out.trans (hb2.mono HBJ.out.size)); clear hb2
            go_wp2
            go_roundw
            case rel => exact ⟨j + 1, by omega, by go_num, by rw [HDi.out]; rfl, HB2.out⟩
            case measure => (simp [intOf]; try omega)
        · obtain rfl : m = j := by omega
          have HCi := Lib.hid (HCS.out i)
          rw [HCi.out]
          go_wp2
          go_roundw
          case rel => exact ⟨i + 1, by omega, by go_num, rfl, HBJ.out⟩
          case measure => (simp [intOf]; try omega)
    · obtain rfl : m = i := by omega
      go_wp2
      go_ret2
      exact ⟨rfl, HBW.out⟩
set_option maxRecDepth 100000 in
set_option maxHeartbeats 4000000 in
theorem impl_CountWaysComplete_yes (m : Nat) (w : World) (h : isSz (m : Int) = true) (ho : (m : Int) % 2 = 1) :
    Calls Tryz.prog 17 #[.int .i64 m] w fun e w' => e = .returned (.tuple #[.int .i64 (cwc m m), .bool true]) ∧ Below w.heap.size w w' := by
  have hq := isSz_le (m : Int) h
  have HO := Lib.hid (fun w => fieldOf_yes (m : Int) w h)
  have hz : ((m : Int).tmod 2 == 0) = false := by rw [Int.tmod_eq_emod_of_nonneg (by omega), ho]; rfl
  have ho1 : ((m : Int) % 2 == 0) = false := by rw [ho]; rfl
  have HW := Lib.hid (fun (i j : Nat) (hi : i < m) (hj : j < m) w => waysCompleteE m (i : Int) (j : Int) w h (El.nat hi) (El.nat hj))
  have HEL := Lib.hid (fun (x : Nat) (hx : x < m) w => elementE (m : Int) (x : Int) w h (by omega) (by omega))
  have HC0 : Hid (cwc m 0 = 0) := Lib.hid rfl
  have HCS : Hid (∀ i, cwc.cwd m (cwc m i) i m = cwc m (i + 1)) := Lib.hid fun _ => rfl
  have HD0 : Hid (∀ i, cwc m i = cwc.cwd m (cwc m i) i 0) := Lib.hid fun _ => rfl
  have HDS : Hid (∀ i j, cwc.cwd m (cwc m i) i (j + 1) = if wcp m (i : Int) (j : Int) then cwc.cwd m (cwc m i) i j + 1 else cwc.cwd m (cwc m i) i j) := Lib.hid fun _ _ => rfl
  have HDB : Hid (∀ i j, i ≤ m → j ≤ m → 0 ≤ cwc.cwd m (cwc m i) i j ∧ cwc.cwd m (cwc m i) i j ≤ 272) := Lib.hid fun i j hi hj => by
    have h1 := cwc_bd m i
    have h2 := cwd_bd m (cwc m i) i h1.1 j
    have h3 := mul_le16 hq.2 hi
    omega
  clear h ho
  obtain ⟨Y, hY⟩ : ∃ Y : Nat → Nat → Int, Y = fun i j => cwc.cwd m (cwc m i) i j := ⟨_, rfl⟩
  have HY : ∀ i j, cwc.cwd m (cwc m i) i j = Y i j := fun i j => by rw [hY]
  simp only [HY] at HCS HD0 HDS HDB
  clear hY HY
  generalize cwc m = S at *
  go_enter Tryz.func17, Tryz.ntmps17
  go_wp2_with fail
  refine (HO.out _).mono ?_
  rintro e w1 ⟨rfl, hb1⟩
  have HB1 : Hid (Below w.heap.size w w1) := Lib.hid hb1; clear hb1
  have hz1 := HB1.out.size
  have HB1' : Hid (Below w.heap.size w (w1.alloc (ffblk (m : Int)))) := Lib.hid (by have hb1 := HB1.out; (repeat' (first | (with_reducible assumption) | (with_reducible exact Below.refl _ _) | (with_reducible refine below_drewN ?_ _) | (with_reducible refine Below.drew ?_) | (with_reducible refine Below.alloc ?_ ?_ _) | (with_reducible refine Below.setCell ?_ ?_ _) | (with_reducible refine Below.trans ?_ (Below.mono (by assumption) ?_)) | (with_reducible exact Nat.le_refl _) | (with_reducible assumption) | omega | (simp; omega) | (simp; done))))
  have HF1 : Hid (∀ w', Below (w1.heap.size + 1) (w1.alloc (ffblk (m : Int))) w' → w1.heap.size < w'.heap.size ∧ w'.cell? ⟨w1.heap.size, 0, none⟩ = some (.int .i64 m) ∧ w'.cell? ⟨w1.heap.size, 1, none⟩ = some (.int .i64 (pr m)) ∧ w'.cell? ⟨w1.heap.size, 2, none⟩ = some (.int .i64 (pl m))) := Lib.hid fun w' hb => by
    obtain ⟨x0, x1, x2, _⟩ := cells3' ((hb.block _ (by omega)).trans (heap_alloc_new w1 _))
    have := hb.size
    simp at this
    exact ⟨by omega, x0, x1, x2⟩
  go_wp2_with fail
  go_loopw [6, 22] (fun vc vi wr => ∃ i : Nat, i ≤ m ∧ vi = .int .i64 i ∧ vc = .int .i64 (S i) ∧ Below (w1.heap.size + 1) (w1.alloc (ffblk (m : Int))) wr) (fun _ vi _ => m - (intOf vi).toNat)
  case atStart => exact ⟨0, Nat.zero_le _, rfl, by rw [HC0.out], by (repeat' (first | (with_reducible assumption) | (with_reducible exact Below.refl _ _) | (with_reducible refine below_drewN ?_ _) | (with_reducible refine Below.drew ?_) | (with_reducible refine Below.alloc ?_ ?_ _) | (with_reducible refine Below.setCell ?_ ?_ _) | (with_reducible refine Below.trans ?_ (Below.mono (by assumption) ?_)) | (with_reducible exact Nat.le_refl _) | (with_reducible assumption) | omega | (simp; omega) | (simp; done)))⟩
  case round =>
    obtain ⟨i, hi, rfl, rfl, hbw⟩ := hrel
    have HBW := Lib.hid hbw; clear hbw
    by_cases hlt : i < m
    · obtain ⟨wo, rfl⟩ : ∃ x : World, x = wr := ⟨_, rfl⟩
      rw [HD0.out i]
      go_wp2_with fail
      go_loopw [6, 26] (fun vc vj wr => ∃ j : Nat, j ≤ m ∧ vj = .int .i64 j ∧ vc = .int .i64 (Y i j) ∧ Below (w1.heap.size + 1) (w1.alloc (ffblk (m : Int))) wr) (fun _ vj _ => m - (intOf vj).toNat)
      case atStart => exact ⟨0, Nat.zero_le _, rfl, rfl, HBW.out⟩
      case round =>
        obtain ⟨j, hj, rfl, rfl, hbw⟩ := hrel
        obtain ⟨hlw, f0, f1, f2⟩ := HF1.out _ hbw
        have HBJ := Lib.hid hbw; clear hbw
        by_cases hltj : j < m
        · have HWi := Lib.hid (fun w => HW.out i j hlt hltj w)
          have HEi := Lib.hid (fun w => HEL.out i hlt w)
          have HEj := Lib.hid (fun w => HEL.out j hltj w)
          have HDi := Lib.hid (HDS.out i j)
          have hbd := HDB.out i j hi hj
          have hw1 : IntKind.i64.wrap (Y i j + 1) = Y i j + 1 := IntWalk.i64_in _ (by omega)
          generalize wcp m (i : Int) (j : Int) = d at *
          have HKEEP : Hid (∀ w', Below wr.heap.size wr w' → w'.cell? ⟨w1.heap.size, 0, none⟩ = some (.int .i64 m) ∧ w'.cell? ⟨w1.heap.size, 1, none⟩ = some (.int .i64 (pr m)) ∧ w'.cell? ⟨w1.heap.size, 2, none⟩ = some (.int .i64 (pl m))) := Lib.hid fun w' hb => by
            obtain ⟨_, g0, g1, g2⟩ := HF1.out w' (HBJ.out.trans (hb.mono (by omega)))
            exact ⟨g0, g1, g2⟩
          clear f0 f1 f2
          cases d with
          | false =>
            go_wp2_with fail
            go_region_held3 (fun w' => w'.cell? ⟨w1.heap.size, 0, none⟩ = some (.int .i64 m) ∧ w'.cell? ⟨w1.heap.size, 1, none⟩ = some (.int .i64 (pr m)) ∧ w'.cell? ⟨w1.heap.size, 2, none⟩ = some (.int .i64 (pl m)))
              (exact HKEEP.out _ (by (try have hb31 := HB31.out); (try have hb34 := HB34.out); (try have hb35 := HB35.out); (repeat' (first | (with_reducible assumption) | (with_reducible exact Below.refl _ _) | (with_reducible refine below_drewN ?_ _) | (with_reducible refine Below.drew ?_) | (with_reducible refine Below.alloc ?_ ?_ _) | (with_reducible refine Below.setCell ?_ ?_ _) | (with_reducible refine Below.trans ?_ (Below.mono (by assumption) ?_)) | (with_reducible exact Nat.le_refl _) | (with_reducible assumption) | omega | (simp; omega) | (simp; done)))))
              (first
              | (go_at_call_of 41 (Value.int .i64 (i : Int)); refine (HEi.out _).mono ?_; rintro e w31 ⟨rfl, hb31⟩; obtain ⟨hc31, hf31⟩ := bcell hb31; (try simp only [World.size_drew] at hc31 hf31); have hz31 := hb31.size; (try simp at hz31); have HB31 := Lib.hid hb31; clear hb31; (try have l31 : w1.heap.size < w31.heap.size := (by omega)))
              | (go_at_call_of 41 (Value.int .i64 (j : Int)); refine (HEj.out _).mono ?_; rintro e w34 ⟨rfl, hb34⟩; obtain ⟨hc34, hf34⟩ := bcell hb34; (try simp only [World.size_drew] at hc34 hf34); have hz34 := hb34.size; (try simp at hz34); have HB34 := Lib.hid hb34; clear hb34; (try have l34 : w1.heap.size < w34.heap.size := (by omega)))
              | (go_at_call 35; refine (HWi.out _).mono ?_; rintro e w35 ⟨rfl, hb35⟩; obtain ⟨hc35, hf35⟩ := bcell hb35; (try simp only [World.size_drew] at hc35 hf35); have hz35 := hb35.size; (try simp at hz35); have HB35 := Lib.hid hb35; clear hb35; (try have l35 : w1.heap.size < w35.heap.size := (by omega))))
            all_goals
              go_wp2_with fail
              have HB2 : Hid (Below (w1.heap.size + 1) (w1.alloc (ffblk (m : Int))) w35) := Lib.hid (by have hb0 := HBJ.out; have hb31 := HB31.out; have hb34 := HB34.out; have hb35 := HB35.out; (repeat' (first | (with_reducible assumption) | (with_reducible exact Below.refl _ _) | (with_reducible refine below_drewN ?_ _) | (with_reducible refine Below.drew ?_) | (with_reducible refine Below.alloc ?_ ?_ _) | (with_reducible refine Below.setCell ?_ ?_ _) | (with_reducible refine Below.trans ?_ (Below.mono (by assumption) ?_)) | (with_reducible exact Nat.le_refl _) | (with_reducible assumption) | omega | (simp; omega) | (simp; done))))
              go_roundw
              case rel => exact ⟨j + 1, by omega, by go_num, by rw [HDi.out]; rfl, HB2.out⟩
              case measure => (simp [intOf]; try omega)
          | true =>
            go_wp2_with fail
            go_region_held3 (fun w' => w'.cell? ⟨w1.heap.size, 0, none⟩ = some (.int .i64 m) ∧ w'.cell? ⟨w1.heap.size, 1, none⟩ = some (.int .i64 (pr m)) ∧ w'.cell? ⟨w1.heap.size, 2, none⟩ = some (.int .i64 (pl m)))
              (exact HKEEP.out _ (by (try have hb31 := HB31.out); (try have hb34 := HB34.out); (try have hb35 := HB35.out); (repeat' (first | (with_reducible assumption) | (with_reducible exact Below.refl _ _) | (with_reducible refine below_drewN ?_ _) | (with_reducible refine Below.drew ?_) | (with_reducible refine Below.alloc ?_ ?_ _) | (with_reducible refine Below.setCell ?_ ?_ _) | (with_reducible refine Below.trans ?_ (Below.mono (by assumption) ?_)) | (with_reducible exact Nat.le_refl _) | (with_reducible assumption) | omega | (simp; omega) | (simp; done)))))
              (first
              | (go_at_call_of 41 (Value.int .i64 (i : Int)); refine (HEi.out _).mono ?_; rintro e w31 ⟨rfl, hb31⟩; obtain ⟨hc31, hf31⟩ := bcell hb31; (try simp only [World.size_drew] at hc31 hf31); have hz31 := hb31.size; (try simp at hz31); have HB31 := Lib.hid hb31; clear hb31; (try have l31 : w1.heap.size < w31.heap.size := (by omega)))
              | (go_at_call_of 41 (Value.int .i64 (j : Int)); refine (HEj.out _).mono ?_; rintro e w34 ⟨rfl, hb34⟩; obtain ⟨hc34, hf34⟩ := bcell hb34; (try simp only [World.size_drew] at hc34 hf34); have hz34 := hb34.size; (try simp at hz34); have HB34 := Lib.hid hb34; clear hb34; (try have l34 : w1.heap.size < w34.heap.size := (by omega)))
              | (go_at_call 35; refine (HWi.out _).mono ?_; rintro e w35 ⟨rfl, hb35⟩; obtain ⟨hc35, hf35⟩ := bcell hb35; (try simp only [World.size_drew] at hc35 hf35); have hz35 := hb35.size; (try simp at hz35); have HB35 := Lib.hid hb35; clear hb35; (try have l35 : w1.heap.size < w35.heap.size := (by omega))))
            all_goals
              go_wp2_with fail
              have HB2 : Hid (Below (w1.heap.size + 1) (w1.alloc (ffblk (m : Int))) w35) := Lib.hid (by have hb0 := HBJ.out; have hb31 := HB31.out; have hb34 := HB34.out; have hb35 := HB35.out; (repeat' (first | (with_reducible assumption) | (with_reducible exact Below.refl _ _) | (with_reducible refine below_drewN ?_ _) | (with_reducible refine Below.drew ?_) | (with_reducible refine Below.alloc ?_ ?_ _) | (with_reducible refine Below.setCell ?_ ?_ _) | (with_reducible refine Below.trans ?_ (Below.mono (by assumption) ?_)) | (with_reducible exact Nat.le_refl _) | (with_reducible assumption) | omega | (simp; omega) | (simp; done))))
              go_roundw
              case rel => exact ⟨j + 1, by omega, by go_num, by rw [HDi.out]; rfl, HB2.out⟩
              case measure => (simp [intOf]; try omega)
        · obtain rfl : m = j := by omega
          have HCi := Lib.hid (HCS.out i)
          rw [HCi.out]
          clear f0 f1 f2
          go_wp2
          go_roundw
          case rel => exact ⟨i + 1, by omega, by go_num, rfl, HBJ.out⟩
          case measure => (simp [intOf]; try omega)
    · obtain rfl : m = i := by omega
      have HBE : Hid (Below w.heap.size w wr) := Lib.hid (HB1'.out.trans (HBW.out.mono (by omega)))
      go_wp2
      go_ret2
      exact ⟨rfl, HBE.out⟩
theorem key_CountWaysComplete (q : Int) : ∃ (r : Int) (o : Bool), (∀ (w : World), Calls Tryz.prog 18 #[.int .i64 q] w fun e w' => e = .returned (.tuple #[.int .i64 r, .bool o]) ∧ Below w.heap.size w w') ∧
      (∀ (w : World), Calls Tryz.prog 17 #[.int .i64 q] w fun e w' => e = .returned (.tuple #[.int .i64 r, .bool o]) ∧ Below w.heap.size w w') := by
  cases h : odq q with
  | false =>
    refine ⟨0, false, fun w => spec_CountWaysComplete_no q w h, fun w => ?_⟩
    cases hs : isSz q with
    | false => exact impl_CountWaysComplete_no1 q w hs
    | true =>
      have hq := isSz_le q hs
      obtain ⟨m, rfl⟩ := Int.eq_ofNat_of_zero_le (show 0 ≤ q by omega)
      refine impl_CountWaysComplete_no2 m w hs ?_
      have : ¬ (m : Int) % 2 = 1 := fun e => by unfold odq at h; rw [hs, e] at h; cases h
      omega
  | true =>
    obtain ⟨m, rfl, hs, ho⟩ := odq_nat h
    exact ⟨_, true, fun w => spec_CountWaysComplete_yes m w hs ho, fun w => impl_CountWaysComplete_yes m w hs ho⟩
end Go.Proofs.YtimpgbifnijkkabGreat
