/- PowerOfX, DicksonOf, JoinDickson, of both, by contracts; the walks of their laws. -/
import Derived.Test.YteclpkicebdfpaaNC
import Derived.Test.YteclpkicebdfpaaNF
import Derived.Test.YteclpkicebdfpaaNH
namespace Go.Proofs.Yteclpkicebdfpaa
open Go.RowKit
theorem ptl_len (m : Nat) (t : Nat → Int) : (ptl m t).length ≤ m := by
  rw [ptl, fl_len]
  exact sn_le _ _
theorem ptl_congr {m : Nat} {t u : Nat → Int} (h : ∀ x, x < m → t x = u x) : ptl m t = ptl m u := by
  have e : ipl m t m = ipl m u m := by
    funext j
    unfold ipl
    exact lsum_congr fun a ha => by rw [h a ha]
  unfold ptl
  rw [e]
theorem unt_set (n : Nat) : (List.replicate (n + 1) (0 : Int)).set n 1 = fl (unt n) (n + 1) := by
  have e : List.replicate (n + 1) (0 : Int) = fl (fun _ => 0) (n + 1) := by
    refine List.ext_getElem (by simp [fl_len]) fun i h1 h2 => ?_
    simp [fl]
  rw [e, fl_set]
  refine fl_congr fun i hi => ?_
  by_cases h : i = n
  · subst h
    rw [upd_at]
    exact (if_pos rfl).symm
  · rw [upd_ne _ _ _ _ h]
    exact (if_neg h).symm
theorem Row.cellN {w : World} {B g N : Nat} (h : Row w B (.slice (some ⟨g, 0, none⟩) N N) (List.replicate N 0)) (i : Nat) (hi : i < N) : w.cell? ⟨g, i, none⟩ = some (.int .i64 0) := by
  have e : (List.replicate N (0 : Int)).length = N := by simp
  have h' : Row w B (.slice (some ⟨g, 0, none⟩) (List.replicate N (0 : Int)).length N) (List.replicate N 0) := by rw [e]; exact h
  have := h'.cell i (by omega)
  rw [this]
  congr 2
  simp [List.getD, hi]
set_option maxHeartbeats 1000000 in
theorem impl_DicksonOf_yes (m k : Nat) (a : Int) (w : World) (ha : inE (m : Int) a = true) (hk : k ≤ 400) :
    Calls Try.prog 9 #[.int .i64 m, .int .i64 k, .int .i64 a] w fun e w' => ∃ v, e = .returned (.tuple #[v, .bool true]) ∧ Row w' w.heap.size v (ptl m (dkt m a k)) ∧ Below w.heap.size w w' := by
  obtain ⟨h, a0, a1⟩ := inE_yes ha
  have HF := Lib.hid (fun w => elementOf_yes (m : Int) a w ha)
  have HX := Lib.hid (fun w => isExp_yes k w hk)
  have HP := Lib.hid (fun w => dicksonT m k a w h ⟨a0, a1⟩ hk)
  have HN := Lib.hid (fun v t w hv => numbersT m v t w h hv)
  clear h ha
  go_enter Try.func9, Try.ntmps9
  go_wp2_with fail
  refine (HF.out _).mono ?_
  rintro e w1 ⟨rfl, hb1⟩
  obtain ⟨hc1, hf1⟩ := bcell hb1; have hz1 := hb1.size; (try simp at hz1); have HB1 := Lib.hid hb1; clear hb1
  go_wp2_with fail
  refine (HX.out _).mono ?_
  rintro e w2 ⟨rfl, hb2⟩
  obtain ⟨hc2, hf2⟩ := bcell hb2; have hz2 := hb2.size; (try simp at hz2); have HB2 := Lib.hid hb2; clear hb2
  go_wp2_with fail
  refine (HP.out _).mono ?_
  rintro e w3 ⟨v3, rfl, hv3, hb3⟩
  obtain ⟨hc3, hf3⟩ := bcell hb3; have hz3 := hb3.size; (try simp at hz3); have HB3 := Lib.hid hb3; clear hb3
  have HV3 := Lib.hid hv3; clear hv3
  go_wp2_with fail
  refine (HN.out _ _ _ HV3.out).mono ?_
  rintro e w4 ⟨v4, rfl, hr4, hb4⟩
  obtain ⟨hc4, hf4⟩ := bcell hb4; have hz4 := hb4.size; (try simp at hz4); have HB4 := Lib.hid hb4; clear hb4
  have HR4 := Lib.hid hr4; clear hr4
  go_wp2
  go_ret2
  have hb1 := HB1.out
  have hb2 := HB2.out
  have hb3 := HB3.out
  have hb4 := HB4.out
  exact ⟨_, rfl, HR4.out.mono (by (try simp); omega), by (repeat' (first | (with_reducible assumption) | (with_reducible exact Below.refl _ _) | (with_reducible refine below_drewN ?_ _) | (with_reducible refine Below.drew ?_) | (with_reducible refine Below.alloc ?_ ?_ _) | (with_reducible refine Below.setCell ?_ ?_ _) | (with_reducible refine Below.trans ?_ (Below.mono (by assumption) ?_)) | (with_reducible exact Nat.le_refl _) | (with_reducible assumption) | omega | (simp; omega) | (simp; done)))⟩
theorem impl_DicksonOf_no (q n a : Int) (w : World) (h : ((isSz q && okE n) && inE q a) = false) :
    Calls Try.prog 9 #[.int .i64 q, .int .i64 n, .int .i64 a] w fun e w' => e = .returned (.tuple #[.slice none 0 0, .bool false]) ∧ Below w.heap.size w w' := by
  cases ha : inE q a with
  | false =>
    have HF := Lib.hid (fun w => elementOf_no q a w ha)
    clear h ha
    go_enter Try.func9, Try.ntmps9
    go_wp2_with fail
    refine (HF.out _).mono ?_
    rintro e w1 ⟨rfl, hb1⟩
    obtain ⟨hc1, hf1⟩ := bcell hb1; have hz1 := hb1.size; (try simp at hz1); have HB1 := Lib.hid hb1; clear hb1
    go_wp2
    go_ret2
    have hb1 := HB1.out
    exact ⟨rfl, by (repeat' (first | (with_reducible assumption) | (with_reducible exact Below.refl _ _) | (with_reducible refine below_drewN ?_ _) | (with_reducible refine Below.drew ?_) | (with_reducible refine Below.alloc ?_ ?_ _) | (with_reducible refine Below.setCell ?_ ?_ _) | (with_reducible refine Below.trans ?_ (Below.mono (by assumption) ?_)) | (with_reducible exact Nat.le_refl _) | (with_reducible assumption) | omega | (simp; omega) | (simp; done)))⟩
  | true =>
    have HF := Lib.hid (fun w => elementOf_yes q a w ha)
    have HX := Lib.hid (fun w => isExponentE n w)
    rw [inE_only h ha] at HX
    clear h ha
    go_enter Try.func9, Try.ntmps9
    go_wp2_with fail
    refine (HF.out _).mono ?_
    rintro e w1 ⟨rfl, hb1⟩
    obtain ⟨hc1, hf1⟩ := bcell hb1; have hz1 := hb1.size; (try simp at hz1); have HB1 := Lib.hid hb1; clear hb1
    go_wp2_with fail
    refine (HX.out _).mono ?_
    rintro e w2 ⟨rfl, hb2⟩
    obtain ⟨hc2, hf2⟩ := bcell hb2; have hz2 := hb2.size; (try simp at hz2); have HB2 := Lib.hid hb2; clear hb2
    go_wp2
    go_ret2
    have hb1 := HB1.out
    have hb2 := HB2.out
    exact ⟨rfl, by (repeat' (first | (with_reducible assumption) | (with_reducible exact Below.refl _ _) | (with_reducible refine below_drewN ?_ _) | (with_reducible refine Below.drew ?_) | (with_reducible refine Below.alloc ?_ ?_ _) | (with_reducible refine Below.setCell ?_ ?_ _) | (with_reducible refine Below.trans ?_ (Below.mono (by assumption) ?_)) | (with_reducible exact Nat.le_refl _) | (with_reducible assumption) | omega | (simp; omega) | (simp; done)))⟩
/-- What JoinDickson is asked of. -/
def in20 (x : Int) : Bool := decide (0 ≤ x) && decide (x ≤ 20)
theorem in20_nat {x : Int} (h : in20 x = true) : ∃ k : Nat, x = (k : Int) ∧ k ≤ 20 := by
  simp only [in20, Bool.and_eq_true, decide_eq_true_eq] at h
  exact ⟨x.toNat, by omega, by omega⟩
theorem in20_of {k : Nat} (h : k ≤ 20) : (decide (0 ≤ (k : Int)) && decide ((k : Int) ≤ 20)) = true := by
  simp only [Bool.and_eq_true, decide_eq_true_eq]
  omega
theorem in20_no {x : Int} (h : in20 x = false) : x < 0 ∨ 0 ≤ x ∧ 20 < x := by
  simp only [in20, Bool.and_eq_false_iff, decide_eq_false_iff_not] at h
  omega
/-- The table of JoinDickson. -/
def jdt (m M N : Nat) (a : Int) : Nat → Int := fun x => dkt m (pw m a N) M (dkt m a N x).toNat
set_option maxHeartbeats 2000000 in
theorem spec_JoinDickson_yes (m M N : Nat) (a : Int) (w : World) (ha : inE (m : Int) a = true) (hM : M ≤ 20) (hN : N ≤ 20) :
    Calls Try.prog 16 #[.int .i64 m, .int .i64 M, .int .i64 N, .int .i64 a] w fun e w' => ∃ v, e = .returned (.tuple #[v, .bool true]) ∧ Row w' w.heap.size v (ptl m (jdt m M N a)) ∧ Below w.heap.size w w' := by
  obtain ⟨h, a0, a1⟩ := inE_yes ha
  have hp := El.pw h ⟨a0, a1⟩ N
  have HSZ := Lib.hid (fun w => fdSize_any (m : Int) w)
  rw [h] at HSZ
  have H1 := Lib.hid (fun w => l1In_any (M : Int) 0 20 w)
  rw [in20_of hM] at H1
  have H2 := Lib.hid (fun w => l1In_any (N : Int) 0 20 w)
  rw [in20_of hN] at H2
  have HI := Lib.hid (fun w => fdIn_any (m : Int) a w)
  rw [ha] at HI
  have HPW := Lib.hid (fun w => fdPower_any (m : Int) a (N : Int) w h a0 a1 (by omega) (by omega))
  simp only [Int.toNat_natCast] at HPW
  have HK1 := Lib.hid (fun w => kdDickson_any m M (pw m a N) w h hp (by omega))
  have HK2 := Lib.hid (fun w => kdDickson_any m N a w h ⟨a0, a1⟩ (by omega))
  have HC := Lib.hid (fun v1 v2 w h1 h2 => plComposeT m v1 v2 (dkt m (pw m a N) M) (dkt m a N) w h h1 h2)
  have HS := Lib.hid h
  have HJ : Hid (∀ x, x < m → (fun x => dkt m (pw m a N) M (dkt m a N x).toNat) x = jdt m M N a x) := Lib.hid fun _ _ => rfl
  clear h ha hp a0 a1
  generalize jdt m M N a = T at *
  generalize dkt m (pw m a N) M = T1 at *
  generalize pw (m : Int) a N = b at *
  go_enter Try.func16, Try.ntmps16
  go_wp2_with fail
  refine (HSZ.out _).mono ?_
  rintro e w1 ⟨rfl, hb1⟩
  obtain ⟨hc1, hf1⟩ := bcell hb1; have hz1 := hb1.size; (try simp at hz1); have HB1 := Lib.hid hb1; clear hb1
  go_wp2_with fail
  refine (H1.out _).mono ?_
  rintro e w2 ⟨rfl, rfl⟩
  go_wp2_with fail
  refine (H2.out _).mono ?_
  rintro e w3 ⟨rfl, rfl⟩
  go_wp2_with fail
  refine (HI.out _).mono ?_
  rintro e w4 ⟨rfl, hb4⟩
  obtain ⟨hc4, hf4⟩ := bcell hb4; have hz4 := hb4.size; (try simp at hz4); have HB4 := Lib.hid hb4; clear hb4
  go_wp2_with fail
  refine (HPW.out _).mono ?_
  rintro e w5 ⟨rfl, hb5⟩
  obtain ⟨hc5, hf5⟩ := bcell hb5; have hz5 := hb5.size; (try simp at hz5); have HB5 := Lib.hid hb5; clear hb5
  go_wp2_with fail
  refine (HK1.out _).mono ?_
  rintro e w6 ⟨v6, rfl, hr6, hb6⟩
  obtain ⟨hc6, hf6⟩ := bcell hb6; have hz6 := hb6.size; (try simp at hz6); have HB6 := Lib.hid hb6; clear hb6
  have HR6 := Lib.hid hr6; clear hr6
  go_wp2_with fail
  refine (HK2.out _).mono ?_
  rintro e w7 ⟨v7, rfl, hr7, hb7⟩
  have HR6b := Lib.hid (HR6.out.below hb7)
  obtain ⟨hc7, hf7⟩ := bcell hb7; have hz7 := hb7.size; (try simp at hz7); have HB7 := Lib.hid hb7; clear hb7
  have HR7 := Lib.hid hr7; clear hr7
  go_wp2_with fail
  refine (HC.out _ _ _ HR6b.out.isL HR7.out.isL).mono ?_
  rintro e w8 ⟨v8, rfl, hr8, hb8⟩
  obtain ⟨hc8, hf8⟩ := bcell hb8; have hz8 := hb8.size; (try simp at hz8); have HB8 := Lib.hid hb8; clear hb8
  have HR8 := Lib.hid hr8; clear hr8
  go_wp2
  go_ret2
  have hb1 := HB1.out
  have hb4 := HB4.out
  have hb5 := HB5.out
  have hb6 := HB6.out
  have hb7 := HB7.out
  have hb8 := HB8.out
  exact ⟨_, rfl, ((HR8.out.like HJ.out).row HS.out).mono (by (try simp); omega), by (repeat' (first | (with_reducible assumption) | (with_reducible exact Below.refl _ _) | (with_reducible refine below_drewN ?_ _) | (with_reducible refine Below.drew ?_) | (with_reducible refine Below.alloc ?_ ?_ _) | (with_reducible refine Below.setCell ?_ ?_ _) | (with_reducible refine Below.trans ?_ (Below.mono (by assumption) ?_)) | (with_reducible exact Nat.le_refl _) | (with_reducible assumption) | omega | (simp; omega) | (simp; done)))⟩
set_option maxRecDepth 100000 in
set_option maxHeartbeats 4000000 in
theorem impl_JoinDickson_yes (m M N : Nat) (a : Int) (w : World) (ha : inE (m : Int) a = true) (hM : M ≤ 20) (hN : N ≤ 20) :
    Calls Try.prog 15 #[.int .i64 m, .int .i64 M, .int .i64 N, .int .i64 a] w fun e w' => ∃ v, e = .returned (.tuple #[v, .bool true]) ∧ Row w' w.heap.size v (ptl m (jdt m M N a)) ∧ Below w.heap.size w w' := by
  obtain ⟨h, a0, a1⟩ := inE_yes ha
  have hp := El.pw h ⟨a0, a1⟩ N
  have HF := Lib.hid (fun w => elementOf_yes (m : Int) a w ha)
  have HPW := Lib.hid (fun w => powerE (m : Int) a (N : Int) w h a0 a1 (by omega) (by omega))
  simp only [Int.toNat_natCast] at HPW
  have HK1 := Lib.hid (fun w => dicksonT m M (pw m a N) w h hp (by omega))
  have HK2 := Lib.hid (fun w => dicksonT m N a w h ⟨a0, a1⟩ (by omega))
  have HC := Lib.hid (fun v1 v2 w h1 h2 => composeT m v1 v2 (dkt m (pw m a N) M) (dkt m a N) w h h1 h2)
  have HNB := Lib.hid (fun v t w hv => numbersT m v t w h hv)
  have HJ : Hid (∀ x, x < m → (fun x => dkt m (pw m a N) M (dkt m a N x).toNat) x = jdt m M N a x) := Lib.hid fun _ _ => rfl
  clear h ha hp a0 a1
  generalize jdt m M N a = T at *
  generalize dkt m (pw m a N) M = T1 at *
  generalize pw (m : Int) a N = b at *
  go_enter Try.func15, Try.ntmps15
  go_wp2_with fail
  refine (HF.out _).mono ?_
  rintro e w1 ⟨rfl, hb1⟩
  obtain ⟨hc1, hf1⟩ := bcell hb1; have hz1 := hb1.size; (try simp at hz1); have HB1 := Lib.hid hb1; clear hb1
  go_wp2_with fail
  have HKEEP : Hid (∀ w', Below (w1.heap.size + 1) (w1.alloc (eblk (m : Int) a)) w' → w'.cell? ⟨w1.heap.size, 0, none⟩ = some (.int .i64 m) ∧ w'.cell? ⟨w1.heap.size, 1, none⟩ = some (.int .i64 (pr m)) ∧ w'.cell? ⟨w1.heap.size, 2, none⟩ = some (.int .i64 (pl m)) ∧ w'.cell? ⟨w1.heap.size, 3, none⟩ = some (.int .i64 (dg m a 0)) ∧ w'.cell? ⟨w1.heap.size, 4, none⟩ = some (.int .i64 (dg m a 1)) ∧ w'.cell? ⟨w1.heap.size, 5, none⟩ = some (.int .i64 (dg m a 2)) ∧ w'.cell? ⟨w1.heap.size, 6, none⟩ = some (.int .i64 (dg m a 3))) := Lib.hid fun w' hb => by
    obtain ⟨y0, y1, y2, y3, y4, y5, y6, _⟩ := seven ((hb.block _ (by omega)).trans (heap_alloc_new w1 (eblk (m : Int) a)))
    exact ⟨y0, y1, y2, y3, y4, y5, y6⟩
  go_region_held3 (fun w' => w'.cell? ⟨w1.heap.size, 0, none⟩ = some (.int .i64 m) ∧ w'.cell? ⟨w1.heap.size, 1, none⟩ = some (.int .i64 (pr m)) ∧ w'.cell? ⟨w1.heap.size, 2, none⟩ = some (.int .i64 (pl m)) ∧ w'.cell? ⟨w1.heap.size, 3, none⟩ = some (.int .i64 (dg m a 0)) ∧ w'.cell? ⟨w1.heap.size, 4, none⟩ = some (.int .i64 (dg m a 1)) ∧ w'.cell? ⟨w1.heap.size, 5, none⟩ = some (.int .i64 (dg m a 2)) ∧ w'.cell? ⟨w1.heap.size, 6, none⟩ = some (.int .i64 (dg m a 3)))
    (exact HKEEP.out _ (by (try have hb2 := HB2.out); (try have hb3 := HB3.out); (try have hb4 := HB4.out); (try have hb5 := HB5.out); (try have hb6 := HB6.out); (repeat' (first | (with_reducible assumption) | (with_reducible exact Below.refl _ _) | (with_reducible refine below_drewN ?_ _) | (with_reducible refine Below.drew ?_) | (with_reducible refine Below.alloc ?_ ?_ _) | (with_reducible refine Below.setCell ?_ ?_ _) | (with_reducible refine Below.trans ?_ (Below.mono (by assumption) ?_)) | (with_reducible exact Nat.le_refl _) | (with_reducible assumption) | omega | (simp; omega) | (simp; done)))))
    (first
    | (go_at_call 43; refine (HPW.out _).mono ?_; rintro e w2 ⟨rfl, hb2⟩; obtain ⟨hc2, hf2⟩ := bcell hb2; (try simp only [World.size_drew] at hc2 hf2); have hz2 := hb2.size; (try simp at hz2); have HB2 := Lib.hid hb2; clear hb2)
    | (go_at_call_of 55 (elE (m : Int) b); refine (HK1.out _).mono ?_; rintro e w3 ⟨v3, rfl, hv3, hb3⟩; have HV3 := Lib.hid hv3; clear hv3; obtain ⟨hc3, hf3⟩ := bcell hb3; (try simp only [World.size_drew] at hc3 hf3); have hz3 := hb3.size; (try simp at hz3); have HB3 := Lib.hid hb3; clear hb3)
    | (go_at_call 55; refine (HK2.out _).mono ?_; rintro e w4 ⟨v4, rfl, hv4, hb4⟩; have HV4 := Lib.hid hv4; have HV3b := Lib.hid (HV3.out.below hb4 (Nat.le_refl _)); clear hv4; obtain ⟨hc4, hf4⟩ := bcell hb4; (try simp only [World.size_drew] at hc4 hf4); have hz4 := hb4.size; (try simp at hz4); have HB4 := Lib.hid hb4; clear hb4)
    | (go_at_call 61; refine (HC.out _ _ _ HV3b.out HV4.out).mono ?_; rintro e w5 ⟨v5, rfl, hv5, hb5⟩; have HV5 := Lib.hid hv5; clear hv5; obtain ⟨hc5, hf5⟩ := bcell hb5; (try simp only [World.size_drew] at hc5 hf5); have hz5 := hb5.size; (try simp at hz5); have HB5 := Lib.hid hb5; clear hb5)
    | (go_at_call 56; refine (HNB.out _ _ _ HV5.out).mono ?_; rintro e w6 ⟨v6, rfl, hr6, hb6⟩; have HR6 := Lib.hid hr6; clear hr6; obtain ⟨hc6, hf6⟩ := bcell hb6; (try simp only [World.size_drew] at hc6 hf6); have hz6 := hb6.size; (try simp at hz6); have HB6 := Lib.hid hb6; clear hb6))
  all_goals
    go_wp2
    go_ret2
    have hb1 := HB1.out
    have hb2 := HB2.out
    have hb3 := HB3.out
    have hb4 := HB4.out
    have hb5 := HB5.out
    have hb6 := HB6.out
    refine ⟨_, rfl, ?_, by (repeat' (first | (with_reducible assumption) | (with_reducible exact Below.refl _ _) | (with_reducible refine below_drewN ?_ _) | (with_reducible refine Below.drew ?_) | (with_reducible refine Below.alloc ?_ ?_ _) | (with_reducible refine Below.setCell ?_ ?_ _) | (with_reducible refine Below.trans ?_ (Below.mono (by assumption) ?_)) | (with_reducible exact Nat.le_refl _) | (with_reducible assumption) | omega | (simp; omega) | (simp; done)))⟩
    have hr := HR6.out.mono (B' := w.heap.size) (by (try simp); omega)
    have hT : ptl m (fun x => T1 (dkt m a N x).toNat) = ptl m T := ptl_congr HJ.out
    rw [hT] at hr
    exact hr
theorem spec_JoinDickson_no (q M N a : Int) (w : World) (h : ((isSz q && in20 M) && (in20 N && inE q a)) = false) :
    Calls Try.prog 16 #[.int .i64 q, .int .i64 M, .int .i64 N, .int .i64 a] w fun e w' => e = .returned (.tuple #[.slice none 0 0, .bool false]) ∧ Below w.heap.size w w' := by
  have HSZ := Lib.hid (fun w => fdSize_any q w)
  have H1 := Lib.hid (fun w => l1In_any M 0 20 w)
  have H2 := Lib.hid (fun w => l1In_any N 0 20 w)
  have HI := Lib.hid (fun w => fdIn_any q a w)
  cases h0 : isSz q with
  | false =>
    rw [h0] at HSZ
    clear h h0
    go_enter Try.func16, Try.ntmps16
    go_wp2_with fail
    refine (HSZ.out _).mono ?_
    rintro e w1 ⟨rfl, hb1⟩
    go_wp2
    go_ret2
    exact ⟨rfl, hb1⟩
  | true =>
    rw [h0] at HSZ
    cases h1 : in20 M with
    | false =>
      rw [show (decide (0 ≤ M) && decide (M ≤ 20)) = false from h1] at H1
      clear h h0 h1
      go_enter Try.func16, Try.ntmps16
      go_wp2_with fail
      refine (HSZ.out _).mono ?_
      rintro e w1 ⟨rfl, hb1⟩
      go_wp2_with fail
      refine (H1.out _).mono ?_
      rintro e w2 ⟨rfl, rfl⟩
      go_wp2
      go_ret2
      exact ⟨rfl, hb1⟩
    | true =>
      rw [show (decide (0 ≤ M) && decide (M ≤ 20)) = true from h1] at H1
      cases h2 : in20 N with
      | false =>
        rw [show (decide (0 ≤ N) && decide (N ≤ 20)) = false from h2] at H2
        clear h h0 h1 h2
        go_enter Try.func16, Try.ntmps16
        go_wp2_with fail
        refine (HSZ.out _).mono ?_
        rintro e w1 ⟨rfl, hb1⟩
        go_wp2_with fail
        refine (H1.out _).mono ?_
        rintro e w2 ⟨rfl, rfl⟩
        go_wp2_with fail
        refine (H2.out _).mono ?_
        rintro e w3 ⟨rfl, rfl⟩
        go_wp2
        go_ret2
        exact ⟨rfl, hb1⟩
      | true =>
        rw [show (decide (0 ≤ N) && decide (N ≤ 20)) = true from h2] at H2
        rw [h0, h1, h2, Bool.true_and, Bool.true_and, Bool.true_and] at h
        rw [h] at HI
        clear h h0 h1 h2
        go_enter Try.func16, Try.ntmps16
        go_wp2_with fail
        refine (HSZ.out _).mono ?_
        rintro e w1 ⟨rfl, hb1⟩
        have hz_hb1 := hb1.size; (try simp at hz_hb1)
        go_wp2_with fail
        refine (H1.out _).mono ?_
        rintro e w2 ⟨rfl, rfl⟩
        go_wp2_with fail
        refine (H2.out _).mono ?_
        rintro e w3 ⟨rfl, rfl⟩
        go_wp2_with fail
        refine (HI.out _).mono ?_
        rintro e w4 ⟨rfl, hb4⟩
        go_wp2
        go_ret2
        exact ⟨rfl, by (repeat' (first | (with_reducible assumption) | (with_reducible exact Below.refl _ _) | (with_reducible refine below_drewN ?_ _) | (with_reducible refine Below.drew ?_) | (with_reducible refine Below.alloc ?_ ?_ _) | (with_reducible refine Below.setCell ?_ ?_ _) | (with_reducible refine Below.trans ?_ (Below.mono (by assumption) ?_)) | (with_reducible exact Nat.le_refl _) | (with_reducible assumption) | omega | (simp; omega) | (simp; done)))⟩
theorem impl_JoinDickson_no (q M N a : Int) (w : World) (h : ((isSz q && in20 M) && (in20 N && inE q a)) = false) :
    Calls Try.prog 15 #[.int .i64 q, .int .i64 M, .int .i64 N, .int .i64 a] w fun e w' => e = .returned (.tuple #[.slice none 0 0, .bool false]) ∧ Below w.heap.size w w' := by
  cases ha : inE q a with
  | false =>
    have HF := Lib.hid (fun w => elementOf_no q a w ha)
    clear h ha
    go_enter Try.func15, Try.ntmps15
    go_wp2_with fail
    refine (HF.out _).mono ?_
    rintro e w1 ⟨rfl, hb1⟩
    obtain ⟨hc1, hf1⟩ := bcell hb1; have hz1 := hb1.size; (try simp at hz1); have HB1 := Lib.hid hb1; clear hb1
    go_wp2
    go_ret2
    have hb1 := HB1.out
    exact ⟨rfl, by (repeat' (first | (with_reducible assumption) | (with_reducible exact Below.refl _ _) | (with_reducible refine below_drewN ?_ _) | (with_reducible refine Below.drew ?_) | (with_reducible refine Below.alloc ?_ ?_ _) | (with_reducible refine Below.setCell ?_ ?_ _) | (with_reducible refine Below.trans ?_ (Below.mono (by assumption) ?_)) | (with_reducible exact Nat.le_refl _) | (with_reducible assumption) | omega | (simp; omega) | (simp; done)))⟩
  | true =>
    have HF := Lib.hid (fun w => elementOf_yes q a w ha)
    rw [(inE_yes ha).1, ha, Bool.true_and, Bool.and_true] at h
    clear ha
    cases h1 : in20 M with
    | false =>
      clear h
      rcases in20_no h1 with h3 | ⟨h3, h4⟩
      all_goals
        clear h1
        go_enter Try.func15, Try.ntmps15
        go_wp2_with fail
        refine (HF.out _).mono ?_
        rintro e w1 ⟨rfl, hb1⟩
        obtain ⟨hc1, hf1⟩ := bcell hb1; have hz1 := hb1.size; (try simp at hz1); have HB1 := Lib.hid hb1; clear hb1
        go_wp2
        go_ret2
        have hb1 := HB1.out
        exact ⟨rfl, by (repeat' (first | (with_reducible assumption) | (with_reducible exact Below.refl _ _) | (with_reducible refine below_drewN ?_ _) | (with_reducible refine Below.drew ?_) | (with_reducible refine Below.alloc ?_ ?_ _) | (with_reducible refine Below.setCell ?_ ?_ _) | (with_reducible refine Below.trans ?_ (Below.mono (by assumption) ?_)) | (with_reducible exact Nat.le_refl _) | (with_reducible assumption) | omega | (simp; omega) | (simp; done)))⟩
    | true =>
      rw [h1, Bool.true_and] at h
      obtain ⟨M', rfl, hM⟩ := in20_nat h1
      clear h1
      rcases in20_no h with h3 | ⟨h3, h4⟩
      all_goals
        clear h
        go_enter Try.func15, Try.ntmps15
        go_wp2_with fail
        refine (HF.out _).mono ?_
        rintro e w1 ⟨rfl, hb1⟩
        obtain ⟨hc1, hf1⟩ := bcell hb1; have hz1 := hb1.size; (try simp at hz1); have HB1 := Lib.hid hb1; clear hb1
        go_wp2
        go_ret2
        have hb1 := HB1.out
        exact ⟨rfl, by (repeat' (first | (with_reducible assumption) | (with_reducible exact Below.refl _ _) | (with_reducible refine below_drewN ?_ _) | (with_reducible refine Below.drew ?_) | (with_reducible refine Below.alloc ?_ ?_ _) | (with_reducible refine Below.setCell ?_ ?_ _) | (with_reducible refine Below.trans ?_ (Below.mono (by assumption) ?_)) | (with_reducible exact Nat.le_refl _) | (with_reducible assumption) | omega | (simp; omega) | (simp; done)))⟩
theorem key_JoinDickson (q M N a : Int) : ∃ (r : List Int) (o : Bool), r.length ≤ 1048576 ∧ (∀ (w : World), Calls Try.prog 16 #[.int .i64 q, .int .i64 M, .int .i64 N, .int .i64 a] w fun e w' => ∃ v, e = .returned (.tuple #[v, .bool o]) ∧ Row w' w.heap.size v r ∧ Below w.heap.size w w') ∧
      (∀ (w : World), Calls Try.prog 15 #[.int .i64 q, .int .i64 M, .int .i64 N, .int .i64 a] w fun e w' => ∃ v, e = .returned (.tuple #[v, .bool o]) ∧ Row w' w.heap.size v r ∧ Below w.heap.size w w') := by
  cases h : ((isSz q && in20 M) && (in20 N && inE q a)) with
  | false => exact ⟨[], false, by simp, fun w => (spec_JoinDickson_no q M N a w h).mono fun _ _ ⟨he, hb⟩ => ⟨_, he, Row.nil _ _, hb⟩, fun w => (impl_JoinDickson_no q M N a w h).mono fun _ _ ⟨he, hb⟩ => ⟨_, he, Row.nil _ _, hb⟩⟩
  | true =>
    simp only [Bool.and_eq_true] at h
    obtain ⟨⟨h0, h1⟩, h2, h3⟩ := h
    obtain ⟨m, rfl⟩ := size_nat h0
    obtain ⟨M', rfl, hM⟩ := in20_nat h1
    obtain ⟨N', rfl, hN⟩ := in20_nat h2
    have hq := isSz_le (m : Int) h0
    exact ⟨_, true, by have := ptl_len m (jdt m M' N' a); omega, fun w => spec_JoinDickson_yes m M' N' a w h3 hM hN, fun w => impl_JoinDickson_yes m M' N' a w h3 hM hN⟩
end Go.Proofs.Yteclpkicebdfpaa
