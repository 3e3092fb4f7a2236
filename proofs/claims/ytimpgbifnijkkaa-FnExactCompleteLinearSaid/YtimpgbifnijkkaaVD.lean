/- CompleteLinear, of both, by contracts; the walk of its law. -/
import Derived.Test.YtimpgbifnijkkaaKG
import Derived.Test.YtimpgbifnijkkaaKI
import Derived.Test.YtimpgbifnijkkaaKM
import Derived.Deep.RegionHeld3
namespace Go.Proofs.Ytimpgbifnijkkaa
open Go.RowKit
/-- a x is complete. -/
def clp (m : Nat) (a : Nat) : Bool := !decide ((a : Int) = 0) && !decide (addF m (a : Int) 1 = 0)
set_option maxHeartbeats 2000000 in
/-- impl.field.numbersWhere at impl.CompleteLinear$1. -/
theorem numbersWhere_cl (q : Int) (w : World) (h : isSz q = true) (P : Nat → Bool) (R : Nat) (HX0 : ∀ (n : Nat) w', (n : Int) < q → Below w.heap.size w w' → Calls Try.prog 75 #[elE q (n : Int), .pointer (some ⟨R, 0, none⟩)] w' fun e w'' => e = .returned (.bool (P n)) ∧ Below w'.heap.size w' w'') :
    Calls Try.prog 74 #[fdE q, .func (.func 75) #[] #[.pointer (some ⟨R, 0, none⟩)]] w fun e w' => ∃ v, e = .returned v ∧ Row w' w.heap.size v (wh P q.toNat) ∧ Below w.heap.size w w' := by
  obtain ⟨i0, hi, iz0, iz1, iz2⟩ := info_parts Try.infoI
  have hq := isSz_le q h
  have HE := Lib.hid (fun w => elements_any q w h)
  have HX := Lib.hid HX0; clear HX0
  obtain ⟨m, hm⟩ := Int.eq_ofNat_of_zero_le (show 0 ≤ q by omega)
  subst hm
  rw [Int.toNat_natCast] at HE ⊢
  clear h
  go_enter Try.func74, Try.ntmps74
  go_wp2_with fail
  refine (HE.out _).mono ?_
  rintro e w3 ⟨g, cp, rfl, hg, hkb, hel, hb3⟩
  simp at hg
  have hgl := hkb.lt
  have hb : Below w.heap.size w w3 := by (repeat' (first | (with_reducible assumption) | (with_reducible exact Below.refl _ _) | (with_reducible refine below_drewN ?_ _) | (with_reducible refine Below.drew ?_) | (with_reducible refine Below.alloc ?_ ?_ _) | (with_reducible refine Below.setCell ?_ ?_ _) | (with_reducible refine Below.trans ?_ (Below.mono (by assumption) ?_)) | (with_reducible exact Nat.le_refl _) | (with_reducible assumption) | omega | (simp; omega) | (simp; done)))
  have HK3 := Lib.hid hkb
  have HL3 := Lib.hid hel
  have HB3 := Lib.hid hb
  have HCR : Hid (∀ wr, Below w3.heap.size w3 wr → Below w.heap.size w wr) := Lib.hid (fun wr hbw => hb.trans (hbw.mono hb.size))
  have hz3 := hb.size
  clear hkb hel hb hb3
  go_wp2_with fail
  go_loopw [5, 11] (fun vo vi wr => ∃ i : Nat, i ≤ m ∧ vi = .int .i64 i ∧ Row wr w3.heap.size vo (wh P i) ∧ Below w3.heap.size w3 wr) (fun _ vi _ => m - (intOf vi).toNat)
  case atStart => exact ⟨0, Nat.zero_le _, rfl, Row.nil _ _, Below.refl _ _⟩
  case round =>
    obtain ⟨i, hi', rfl, hr, hbw⟩ := hrel
    have hz := hbw.size
    have HL := Lib.hid (wh_len P i)
    by_cases hlt : i < m
    · obtain ⟨c0, c1, c2, c3, c4, c5, c6⟩ := (HL3.out.below hbw hgl) i hlt
      have hgr : g < wr.heap.size := by omega
      have hnq : (i : Int) < (m : Int) := by omega
      have HR := Lib.hid hr; clear hr
      have HBW := Lib.hid hbw; clear hbw
      have HX' := Lib.hid (fun w' hb => HX.out i w' hnq hb)
      cases hp : P i with
      | true =>
        rw [hp] at HX'
        have HS := Lib.hid (wh_yes P i hp); clear hp
        go_wp2_with fail
        refine (HX'.out _ ((HCR.out _ HBW.out).alloc (by omega) _)).mono ?_
        rintro e w5 ⟨rfl, hb5⟩
        have hz_hb5 := hb5.size; (try simp at hz_hb5)
        have HR5 := Lib.hid ((HR.out.alloc (eblk (m : Int) (i : Int))).below hb5)
        have HB5 : Hid (Below wr.heap.size wr w5) := Lib.hid (by (repeat' (first | (with_reducible assumption) | (with_reducible exact Below.refl _ _) | (with_reducible refine below_drewN ?_ _) | (with_reducible refine Below.drew ?_) | (with_reducible refine Below.alloc ?_ ?_ _) | (with_reducible refine Below.setCell ?_ ?_ _) | (with_reducible refine Below.trans ?_ (Below.mono (by assumption) ?_)) | (with_reducible exact Nat.le_refl _) | (with_reducible assumption) | omega | (simp; omega) | (simp; done))))
        clear hb5
        go_wp2_with (at_builtin; refine wpList_append_own _ rfl _ _ 22 rfl w3.heap.size 3 i0 (.int .i64 0) 1 8 Try.underlying22 hi iz0 iz1 iz2 rfl (by decide) _ _ _ rfl (World.ownsRow.alloc HR5.out _) ⟨w5.heap.size, 0, none⟩ 1 1 [.int .i64 i] rfl rfl ?c1 ?c2 ?c3 ?c4 ?c5 ?_)
        case c1 => exact cell_one_new _ _ _
        case c2 => intro u hu; simp at hu; subst hu; rfl
        case c3 => have := HL.out; unfold maxLen; omega
        case c4 => have := HL.out; omega
        case c5 => simp; omega
        intro v' w6 hown hgrow _
        have HR6 := Lib.hid (Row.appended hown)
        have hb : Below w3.heap.size w3 (w5.alloc (.cells #[.int .i64 i] 3)) := (HBW.out.trans (HB5.out.mono hz)).alloc (by omega) _
        have HB6 := Lib.hid (hb.grown hgrow (by simp; omega) (fun g hg => (HR5.out.lt g hg).1))
        clear hown hgrow hb
        go_wp2
        go_roundw
        case rel => exact ⟨i + 1, by omega, by go_num, by rw [HS.out]; exact HR6.out, HB6.out⟩
        case measure => simp [intOf]; omega
      | false =>
        rw [hp] at HX'
        have HS := Lib.hid (wh_no P i hp); clear hp
        go_wp2_with fail
        refine (HX'.out _ ((HCR.out _ HBW.out).alloc (by omega) _)).mono ?_
        rintro e w5 ⟨rfl, hb5⟩
        have hz_hb5 := hb5.size; (try simp at hz_hb5)
        have HR5 := Lib.hid ((HR.out.alloc (eblk (m : Int) (i : Int))).below hb5)
        have HB5 : Hid (Below wr.heap.size wr w5) := Lib.hid (by (repeat' (first | (with_reducible assumption) | (with_reducible exact Below.refl _ _) | (with_reducible refine below_drewN ?_ _) | (with_reducible refine Below.drew ?_) | (with_reducible refine Below.alloc ?_ ?_ _) | (with_reducible refine Below.setCell ?_ ?_ _) | (with_reducible refine Below.trans ?_ (Below.mono (by assumption) ?_)) | (with_reducible exact Nat.le_refl _) | (with_reducible assumption) | omega | (simp; omega) | (simp; done))))
        clear hb5
        go_wp2
        go_roundw
        case rel => exact ⟨i + 1, by omega, by go_num, by rw [HS.out]; exact HR5.out, HBW.out.trans (HB5.out.mono hz)⟩
        case measure => simp [intOf]; omega
    · obtain rfl : m = i := by omega
      have HR := Lib.hid hr; clear hr
      have HBW := Lib.hid hbw; clear hbw
      go_wp2
      go_ret
      exact ⟨_, rfl, HR.out.mono hz3, HB3.out.trans (HBW.out.mono hz3)⟩

set_option maxRecDepth 100000 in
set_option maxHeartbeats 4000000 in
/-- The closure of impl.CompleteLinear. -/
theorem clClo (m n R : Nat) (w : World) (h : isSz (m : Int) = true) (hn : n < m) (hR : w.heap[R]? = some (ffblk (m : Int))) :
    Calls Try.prog 75 #[elE (m : Int) (n : Int), .pointer (some ⟨R, 0, none⟩)] w fun e w' => e = .returned (.bool (clp m n)) ∧ Below w.heap.size w w' := by
  have e1 := El.one h
  have ea : El (m : Int) (n : Int) := El.nat hn
  have es := El.add h ea e1
  have HZ := Lib.hid (fun w => isZeroE (m : Int) (n : Int) w h ea.1 ea.2)
  have HON := Lib.hid (fun w => oneE (m : Int) w h)
  have HPL := Lib.hid (fun w => plusE (m : Int) (n : Int) 1 w h ea.1 ea.2 e1.1 e1.2)
  have HZ2 := Lib.hid (fun w => isZeroE (m : Int) (addF m (n : Int) 1) w h es.1 es.2)
  have hRl : R < w.heap.size := (Array.getElem?_eq_some_iff.1 hR).1
  have HC : Hid (clp m n = (!decide ((n : Int) = 0) && !decide (addF m (n : Int) 1 = 0))) := Lib.hid rfl
  rw [HC.out]
  have HKEEP : Hid (∀ w', Below (w.heap.size + 1) (w.alloc (eblk (m : Int) (n : Int))) w' → w'.cell? ⟨w.heap.size, 0, none⟩ = some (.int .i64 m) ∧ w'.cell? ⟨w.heap.size, 1, none⟩ = some (.int .i64 (pr m)) ∧ w'.cell? ⟨w.heap.size, 2, none⟩ = some (.int .i64 (pl m)) ∧ w'.cell? ⟨w.heap.size, 3, none⟩ = some (.int .i64 (dg m (n : Int) 0)) ∧ w'.cell? ⟨w.heap.size, 4, none⟩ = some (.int .i64 (dg m (n : Int) 1)) ∧ w'.cell? ⟨w.heap.size, 5, none⟩ = some (.int .i64 (dg m (n : Int) 2)) ∧ w'.cell? ⟨w.heap.size, 6, none⟩ = some (.int .i64 (dg m (n : Int) 3)) ∧ w'.cell? ⟨R, 0, none⟩ = some (.int .i64 m) ∧ w'.cell? ⟨R, 1, none⟩ = some (.int .i64 (pr m)) ∧ w'.cell? ⟨R, 2, none⟩ = some (.int .i64 (pl m))) := Lib.hid fun w' hb => by
    obtain ⟨y0, y1, y2, y3, y4, y5, y6, _⟩ := seven ((hb.block _ (by omega)).trans (heap_alloc_new w (eblk (m : Int) (n : Int))))
    obtain ⟨x0, x1, x2, _⟩ := cells3' ((hb.block R (by omega)).trans ((Below.heap_alloc _ _ _ (by omega)).trans hR))
    exact ⟨y0, y1, y2, y3, y4, y5, y6, x0, x1, x2⟩
  clear h hn ea e1 es hR HC
  generalize addF (m : Int) (n : Int) 1 = s at *
  by_cases h0 : (n : Int) = 0
  · have hd : decide ((n : Int) = 0) = true := by simpa using h0
    rw [hd] at HZ ⊢
    clear hd
    generalize (n : Int) = a at *
    clear h0
    go_enter Try.func75, Try.ntmps75
    go_wp2_with fail
    obtain ⟨y0, y1, y2, y3, y4, y5, y6, x0, x1, x2⟩ := HKEEP.out _ (Below.refl _ _)
    go_region_with (go_at_call 76; refine (HZ.out _).mono ?_; rintro e w2 ⟨rfl, hb2⟩; obtain ⟨hc2, hf2⟩ := bcell hb2; (try simp only [World.size_drew] at hc2 hf2); have hz2 := hb2.size; (try simp at hz2); have HB2 := Lib.hid hb2; clear hb2)
    all_goals
      go_wp2
      go_ret
      have hb2 := HB2.out
      exact ⟨rfl, by (repeat' (first | (with_reducible assumption) | (with_reducible exact Below.refl _ _) | (with_reducible refine below_drewN ?_ _) | (with_reducible refine Below.drew ?_) | (with_reducible refine Below.alloc ?_ ?_ _) | (with_reducible refine Below.setCell ?_ ?_ _) | (with_reducible refine Below.trans ?_ (Below.mono (by assumption) ?_)) | (with_reducible exact Nat.le_refl _) | (with_reducible assumption) | omega | (simp; omega) | (simp; done)))⟩
  · have hd : decide ((n : Int) = 0) = false := by simpa using h0
    rw [hd] at HZ ⊢
    clear hd h0
    generalize decide (s = 0) = d2 at *
    generalize (n : Int) = a at *
    go_enter Try.func75, Try.ntmps75
    go_wp2_with fail
    go_region_held3 (fun w' => w'.cell? ⟨w.heap.size, 0, none⟩ = some (.int .i64 m) ∧ w'.cell? ⟨w.heap.size, 1, none⟩ = some (.int .i64 (pr m)) ∧ w'.cell? ⟨w.heap.size, 2, none⟩ = some (.int .i64 (pl m)) ∧ w'.cell? ⟨w.heap.size, 3, none⟩ = some (.int .i64 (dg m a 0)) ∧ w'.cell? ⟨w.heap.size, 4, none⟩ = some (.int .i64 (dg m a 1)) ∧ w'.cell? ⟨w.heap.size, 5, none⟩ = some (.int .i64 (dg m a 2)) ∧ w'.cell? ⟨w.heap.size, 6, none⟩ = some (.int .i64 (dg m a 3)) ∧ w'.cell? ⟨R, 0, none⟩ = some (.int .i64 m) ∧ w'.cell? ⟨R, 1, none⟩ = some (.int .i64 (pr m)) ∧ w'.cell? ⟨R, 2, none⟩ = some (.int .i64 (pl m)))
      (exact HKEEP.out _ (by (try have hb2 := HB2.out); (try have hb3 := HB3.out); (try have hb4 := HB4.out); (try have hb5 := HB5.out); (repeat' (first | (with_reducible assumption) | (with_reducible exact Below.refl _ _) | (with_reducible refine below_drewN ?_ _) | (with_reducible refine Below.drew ?_) | (with_reducible refine Below.alloc ?_ ?_ _) | (with_reducible refine Below.setCell ?_ ?_ _) | (with_reducible refine Below.trans ?_ (Below.mono (by assumption) ?_)) | (with_reducible exact Nat.le_refl _) | (with_reducible assumption) | omega | (simp; omega) | (simp; done)))))
      (first
      | (go_at_call_of 76 (Value.int .i64 (dg m a 0)); refine (HZ.out _).mono ?_; rintro e w2 ⟨rfl, hb2⟩; obtain ⟨hc2, hf2⟩ := bcell hb2; (try simp only [World.size_drew] at hc2 hf2); have hz2 := hb2.size; (try simp at hz2); have HB2 := Lib.hid hb2; clear hb2; (try have l2 : w.heap.size < w2.heap.size := (by omega)))
      | (go_at_call 78; refine (HON.out _).mono ?_; rintro e w3 ⟨rfl, hb3⟩; obtain ⟨hc3, hf3⟩ := bcell hb3; (try simp only [World.size_drew] at hc3 hf3); have hz3 := hb3.size; (try simp at hz3); have HB3 := Lib.hid hb3; clear hb3; (try have l3 : w.heap.size < w3.heap.size := (by omega)))
      | (go_at_call 77; refine (HPL.out _).mono ?_; rintro e w4 ⟨rfl, hb4⟩; obtain ⟨hc4, hf4⟩ := bcell hb4; (try simp only [World.size_drew] at hc4 hf4); have hz4 := hb4.size; (try simp at hz4); have HB4 := Lib.hid hb4; clear hb4; (try have l4 : w.heap.size < w4.heap.size := (by omega)))
      | (go_at_call_of 76 (elE (m : Int) s); refine (HZ2.out _).mono ?_; rintro e w5 ⟨rfl, hb5⟩; obtain ⟨hc5, hf5⟩ := bcell hb5; (try simp only [World.size_drew] at hc5 hf5); have hz5 := hb5.size; (try simp at hz5); have HB5 := Lib.hid hb5; clear hb5; (try have l5 : w.heap.size < w5.heap.size := (by omega))))
    all_goals
      go_wp2
      go_ret
      have hb2 := HB2.out
      have hb3 := HB3.out
      have hb4 := HB4.out
      have hb5 := HB5.out
      exact ⟨rfl, by (repeat' (first | (with_reducible assumption) | (with_reducible exact Below.refl _ _) | (with_reducible refine below_drewN ?_ _) | (with_reducible refine Below.drew ?_) | (with_reducible refine Below.alloc ?_ ?_ _) | (with_reducible refine Below.setCell ?_ ?_ _) | (with_reducible refine Below.trans ?_ (Below.mono (by assumption) ?_)) | (with_reducible exact Nat.le_refl _) | (with_reducible assumption) | omega | (simp; omega) | (simp; done)))⟩
theorem spec_CompleteLinear_no (q : Int) (w : World) (h : isSz q = false) :
    Calls Try.prog 33 #[.int .i64 q] w fun e w' => e = .returned (.tuple #[.slice none 0 0, .bool false]) ∧ Below w.heap.size w w' := by
  have HS := Lib.hid (fun w => fdSize_any q w)
  rw [h] at HS
  clear h
  go_enter Try.func33, Try.ntmps33
  go_wp2_with fail
  refine (HS.out _).mono ?_
  rintro e w1 ⟨rfl, hb1⟩
  go_wp2
  go_ret2
  exact ⟨rfl, hb1⟩
theorem impl_CompleteLinear_no (q : Int) (w : World) (h : isSz q = false) :
    Calls Try.prog 34 #[.int .i64 q] w fun e w' => e = .returned (.tuple #[.slice none 0 0, .bool false]) ∧ Below w.heap.size w w' := by
  have HS := Lib.hid (fun w => fieldOf_no q w h)
  clear h
  go_enter Try.func34, Try.ntmps34
  go_wp2_with fail
  refine (HS.out _).mono ?_
  rintro e w1 ⟨rfl, hb1⟩
  have hz_hb1 := hb1.size; (try simp at hz_hb1)
  go_wp2_with fail
  go_ret2
  exact ⟨rfl, by (repeat' (first | (with_reducible assumption) | (with_reducible exact Below.refl _ _) | (with_reducible refine below_drewN ?_ _) | (with_reducible refine Below.drew ?_) | (with_reducible refine Below.alloc ?_ ?_ _) | (with_reducible refine Below.setCell ?_ ?_ _) | (with_reducible refine Below.trans ?_ (Below.mono (by assumption) ?_)) | (with_reducible exact Nat.le_refl _) | (with_reducible assumption) | omega | (simp; omega) | (simp; done)))⟩
set_option maxRecDepth 100000 in
set_option maxHeartbeats 4000000 in
theorem spec_CompleteLinear_yes (m : Nat) (w : World) (h : isSz (m : Int) = true) :
    Calls Try.prog 33 #[.int .i64 m] w fun e w' => ∃ v', e = .returned (.tuple #[v', .bool true]) ∧ Row w' w.heap.size v' (wh (clp m) m) ∧ Below w.heap.size w w' := by
  obtain ⟨i0, hi, iz0, iz1, iz2⟩ := info_parts Try.infoI
  have hq := isSz_le (m : Int) h
  have HS := Lib.hid (fun w => fdSize_any (m : Int) w)
  rw [h] at HS
  have HP := Lib.hid (fun (x : Nat) (hx : x < m) w => fdPlus_any (m : Int) (x : Int) 1 w h (by omega) (by omega) (El.one h).1 (El.one h).2)
  have HY : Hid (∀ k : Nat, 1 ≤ k → ¬ addF m (k : Int) 1 = 0 → wh (clp m) (k + 1) = wh (clp m) k ++ [(k : Int)]) := Lib.hid fun k hk hs => wh_yes _ k (by
    have h1 : ¬ (k : Int) = 0 := by omega
    unfold clp
    simp only [decide_eq_false h1, decide_eq_false hs]
    rfl)
  have HN : Hid (∀ k : Nat, addF m (k : Int) 1 = 0 → wh (clp m) (k + 1) = wh (clp m) k) := Lib.hid fun k hs => wh_no _ k (by
    unfold clp
    simp only [decide_eq_true hs]
    simp)
  have H1 : Hid (wh (clp m) 1 = []) := Lib.hid (by
    rw [wh_no _ 0 (by unfold clp; simp)]
    rfl)
  have HL := Lib.hid (fun k => wh_len (clp m) k)
  clear h
  generalize wh (clp m) = W at *
  go_enter Try.func33, Try.ntmps33
  go_wp2_with fail
  refine (HS.out _).mono ?_
  rintro e w1 ⟨rfl, hb1⟩
  have HB1 := Lib.hid hb1; clear hb1
  go_wp2_with fail
  go_loopw [4, 5] (fun vo vk wr => ∃ k : Nat, 1 ≤ k ∧ k ≤ m ∧ vk = .int .i64 k ∧ Row wr w.heap.size vo (W k) ∧ Below w.heap.size w wr) (fun _ vk _ => m - (intOf vk).toNat)
  case atStart => exact ⟨1, Nat.le_refl _, by omega, rfl, by rw [H1.out]; exact Row.nil _ _, HB1.out⟩
  case round =>
    obtain ⟨k, hk1, hk, rfl, hr, hbw⟩ := hrel
    have HR := Lib.hid hr; clear hr
    have HBW := Lib.hid hbw; clear hbw
    have HLk := Lib.hid (HL.out k)
    by_cases hlt : k < m
    · have HPk := Lib.hid (fun w => HP.out k hlt w)
      by_cases hs : addF (m : Int) (k : Int) 1 = 0
      · have HNk := Lib.hid (HN.out k hs)
        rw [hs] at HPk
        clear hs
        go_wp2_with fail
        refine (HPk.out _).mono ?_
        rintro e w2 ⟨rfl, hb2⟩
        have HB2 : Hid (Below w.heap.size w w2) := Lib.hid (HBW.out.trans (hb2.mono HBW.out.size))
        have HR2 := Lib.hid (HR.out.below hb2)
        clear hb2
        go_wp2
        go_roundw
        case rel => exact ⟨k + 1, by omega, by omega, by go_num, by rw [HNk.out]; exact HR2.out, HB2.out⟩
        case measure => (simp [intOf]; try omega)
      · have HYk := Lib.hid (HY.out k hk1 hs)
        generalize addF (m : Int) (k : Int) 1 = s at *
        have hb1 : (s == 0) = false := by simpa using hs
        have hb2' : (s != 0) = true := by simpa using hs
        go_wp2_with fail
        refine (HPk.out _).mono ?_
        rintro e w2 ⟨rfl, hb2⟩
        have HB2 : Hid (Below w.heap.size w w2) := Lib.hid (HBW.out.trans (hb2.mono HBW.out.size))
        have HR2 := Lib.hid (HR.out.below hb2)
        have hz2 := HB2.out.size
        clear hb2
        go_wp2_with (at_builtin; refine wpList_append_own _ rfl _ _ 22 rfl w.heap.size 3 i0 (.int .i64 0) 1 8 Try.underlying22 hi iz0 iz1 iz2 rfl (by decide) _ _ _ rfl (World.ownsRow.alloc HR2.out _) ⟨w2.heap.size, 0, none⟩ 1 1 [.int .i64 k] rfl rfl ?c1 ?c2 ?c3 ?c4 ?c5 ?_)
        case c1 => exact cell_one_new _ _ _
        case c2 => first | rfl | (intro u hu; simp at hu; subst hu; rfl)
        case c3 => have := HLk.out; unfold maxLen; omega
        case c4 => have := HLk.out; omega
        case c5 => first | omega | (simp; omega)
        intro v' w6 hown hgrow _
        have HR6 := Lib.hid (Row.appended hown)
        have hb6 : Below w.heap.size w (w2.alloc (.cells #[.int .i64 (k : Int)] 3)) := HB2.out.alloc (by omega) _
        have HB6 := Lib.hid (hb6.grown hgrow (by simp; omega) (fun g hg => (HR2.out.lt g hg).1))
        clear hown hgrow hb6
        go_wp2
        go_roundw
        case rel => exact ⟨k + 1, by omega, by omega, by go_num, by rw [HYk.out]; exact HR6.out, HB6.out⟩
        case measure => (simp [intOf]; try omega)
    · obtain rfl : k = m := by omega
      go_wp2
      go_ret2
      exact ⟨_, rfl, HR.out, HBW.out⟩
set_option maxRecDepth 100000 in
set_option maxHeartbeats 4000000 in
theorem impl_CompleteLinear_yes (m : Nat) (w : World) (h : isSz (m : Int) = true) :
    Calls Try.prog 34 #[.int .i64 m] w fun e w' => ∃ v', e = .returned (.tuple #[v', .bool true]) ∧ Row w' w.heap.size v' (wh (clp m) m) ∧ Below w.heap.size w w' := by
  have hq := isSz_le (m : Int) h
  have HS := Lib.hid (fun w => fieldOf_yes (m : Int) w h)
  have HT := Lib.hid (fun (K : Nat) w' (hK : w'.heap[K]? = some (ffblk (m : Int))) =>
    numbersWhere_cl (m : Int) w' h (clp m) K (fun i w'' hi hb => clClo m i K w'' h (by omega) ((hb.block K (Array.getElem?_eq_some_iff.1 hK).1).trans hK)))
  simp only [Int.toNat_natCast] at HT
  clear h
  generalize wh (clp m) m = r at *
  go_enter Try.func34, Try.ntmps34
  go_wp2_with fail
  refine (HS.out _).mono ?_
  rintro e w1 ⟨rfl, hb1⟩
  have hz_hb1 := hb1.size; (try simp at hz_hb1)
  have HB1 := Lib.hid hb1; clear hb1
  go_wp2_with fail
  refine (HT.out w1.heap.size _ (heap_alloc_new w1 _)).mono ?_
  rintro e w2 ⟨v2, rfl, hr2, hb2⟩
  have hz_hb2 := hb2.size; (try simp at hz_hb2)
  have HR2 := Lib.hid hr2; clear hr2
  have HB2 := Lib.hid hb2; clear hb2
  go_wp2
  go_ret2
  have hb1 := HB1.out
  have hb2 := HB2.out
  exact ⟨_, rfl, HR2.out.mono (by simp; omega), by (repeat' (first | (with_reducible assumption) | (with_reducible exact Below.refl _ _) | (with_reducible refine below_drewN ?_ _) | (with_reducible refine Below.drew ?_) | (with_reducible refine Below.alloc ?_ ?_ _) | (with_reducible refine Below.setCell ?_ ?_ _) | (with_reducible refine Below.trans ?_ (Below.mono (by assumption) ?_)) | (with_reducible exact Nat.le_refl _) | (with_reducible assumption) | omega | (simp; omega) | (simp; done)))⟩
theorem key_CompleteLinear (q : Int) : ∃ (r : List Int) (o : Bool), r.length ≤ 1048576 ∧ (∀ (w : World), Calls Try.prog 33 #[.int .i64 q] w fun e w' => ∃ v, e = .returned (.tuple #[v, .bool o]) ∧ Row w' w.heap.size v r ∧ Below w.heap.size w w') ∧
      (∀ (w : World), Calls Try.prog 34 #[.int .i64 q] w fun e w' => ∃ v, e = .returned (.tuple #[v, .bool o]) ∧ Row w' w.heap.size v r ∧ Below w.heap.size w w') := by
  cases h : isSz q with
  | false => exact ⟨[], false, by simp, fun w => (spec_CompleteLinear_no q w h).mono fun _ _ ⟨he, hb⟩ => ⟨_, he, Row.nil _ _, hb⟩, fun w => (impl_CompleteLinear_no q w h).mono fun _ _ ⟨he, hb⟩ => ⟨_, he, Row.nil _ _, hb⟩⟩
  | true =>
    have hq := isSz_le q h
    obtain ⟨m, rfl⟩ := Int.eq_ofNat_of_zero_le (show 0 ≤ q by omega)
    exact ⟨_, true, by have := wh_len (clp m) m; omega, fun w => spec_CompleteLinear_yes m w h, fun w => impl_CompleteLinear_yes m w h⟩
set_option maxRecDepth 100000 in
set_option maxHeartbeats 4000000 in
/-- laws.FnExactCompleteLinear. -/
theorem walk_FnExactCompleteLinear (q : Int) (w : World) (_h_q : (Lit.int .i64 q).wf = true) :
    Calls Try.prog 11 #[.int .i64 q] w fun e w' => e = .returned (.bool true) ∧ Below w.heap.size w w' := by
  clear _h_q
  obtain ⟨r, o, hr, k1, k2⟩ := key_CompleteLinear q
  have K1 := Lib.hid k1; clear k1
  have K2 := Lib.hid k2; clear k2
  have HB0 : Hid (Below w.heap.size w w) := Lib.hid (Below.refl _ _)
  go_enter Try.func11, Try.ntmps11
  go_wp2_with fail
  refine (K1.out _ ).mono ?_
  rintro e w1 ⟨v_sp, rfl, hrw1, hbw1⟩
  have hzw1 : w.heap.size ≤ w1.heap.size := hbw1.size
  have HBw1 : Hid (Below w.heap.size w w1) := Lib.hid (HB0.out.trans (hbw1.mono HB0.out.size))
  have hww1 := HBw1.out.size
  clear hbw1 HB0
  have R_sp_w1 := Lib.hid hrw1; clear hrw1
  have lt_sp : Hid (∀ g, v_sp.ownBlock = some g → w.heap.size ≤ g ∧ g < w1.heap.size) := Lib.hid R_sp_w1.out.lt
  go_wp2_with fail
  refine (K2.out _ ).mono ?_
  rintro e w2 ⟨v_im, rfl, hrw2, hbw2⟩
  have hzw2 : w1.heap.size ≤ w2.heap.size := hbw2.size
  have R_sp_w2 := Lib.hid (R_sp_w1.out.below hbw2)
  clear R_sp_w1
  have HBw2 : Hid (Below w.heap.size w w2) := Lib.hid (HBw1.out.trans (hbw2.mono HBw1.out.size))
  have hww2 := HBw2.out.size
  clear hbw2 HBw1
  have R_im_w2 := Lib.hid hrw2; clear hrw2
  have lt_im : Hid (∀ g, v_im.ownBlock = some g → w1.heap.size ≤ g ∧ g < w2.heap.size) := Lib.hid R_im_w2.out.lt
  go_wp2_with fail
  refine (eq_same v_im v_sp r _ _ _ R_im_w2.out R_sp_w2.out (by omega)).mono ?_
  rintro e w3 ⟨rfl, hbw3⟩
  have hzw3 : w2.heap.size ≤ w3.heap.size := hbw3.size
  have R_sp_w3 := Lib.hid (R_sp_w2.out.below hbw3)
  clear R_sp_w2
  have R_im_w3 := Lib.hid (R_im_w2.out.below hbw3)
  clear R_im_w2
  have HBw3 : Hid (Below w.heap.size w w3) := Lib.hid (HBw2.out.trans (hbw3.mono HBw2.out.size))
  have hww3 := HBw3.out.size
  clear hbw3 HBw2
  go_wp2_with fail
  refine (mark_any v_im r _ (1) _ R_im_w3.out (by omega) (by omega) (by omega)).mono ?_
  rintro e w4 ⟨rfl, hrw4, hgw4⟩
  have hzw4 : w3.heap.size ≤ w4.heap.size := hgw4.size
  have R_sp_w4 := Lib.hid (R_sp_w3.out.keep (w' := w4) fun g hg => hgw4.block g (R_sp_w3.out.lt g hg).2 fun e => by have h1 := lt_sp.out g hg; have h2 := lt_im.out g e.symm; omega)
  clear R_sp_w3
  have HBw4 : Hid (Below w.heap.size w w4) := Lib.hid (Below.grown HBw3.out hgw4 (by omega) (fun g e => by have h2 := lt_im.out g e; omega))
  have hww4 := HBw4.out.size
  have R_im_w4 := Lib.hid hrw4
  clear hrw4 hgw4 HBw3 R_im_w3
  go_wp2_with fail
  refine (held_any v_im r.length _ (1) _ R_im_w4.out (by omega) (by omega) (by omega)).mono ?_
  rintro e wx1 ⟨rfl, rfl⟩
  go_wp2_with fail
  refine (K2.out _ ).mono ?_
  rintro e w5 ⟨v_im2, rfl, hrw5, hbw5⟩
  have hzw5 : w4.heap.size ≤ w5.heap.size := hbw5.size
  have R_sp_w5 := Lib.hid (R_sp_w4.out.below hbw5)
  clear R_sp_w4
  have R_im_w5 := Lib.hid (R_im_w4.out.below hbw5)
  clear R_im_w4
  have HBw5 : Hid (Below w.heap.size w w5) := Lib.hid (HBw4.out.trans (hbw5.mono HBw4.out.size))
  have hww5 := HBw5.out.size
  clear hbw5 HBw4
  have R_im2_w5 := Lib.hid hrw5; clear hrw5
  have lt_im2 : Hid (∀ g, v_im2.ownBlock = some g → w4.heap.size ≤ g ∧ g < w5.heap.size) := Lib.hid R_im2_w5.out.lt
  go_wp2_with fail
  refine (eq_same v_im2 v_sp r _ _ _ R_im2_w5.out R_sp_w5.out (by omega)).mono ?_
  rintro e w6 ⟨rfl, hbw6⟩
  have hzw6 : w5.heap.size ≤ w6.heap.size := hbw6.size
  have R_sp_w6 := Lib.hid (R_sp_w5.out.below hbw6)
  clear R_sp_w5
  have R_im_w6 := Lib.hid (R_im_w5.out.below hbw6)
  clear R_im_w5
  have R_im2_w6 := Lib.hid (R_im2_w5.out.below hbw6)
  clear R_im2_w5
  have HBw6 : Hid (Below w.heap.size w w6) := Lib.hid (HBw5.out.trans (hbw6.mono HBw5.out.size))
  have hww6 := HBw6.out.size
  clear hbw6 HBw5
  go_wp2_with fail
  refine (held_any v_im r.length _ (1) _ R_im_w6.out (by omega) (by omega) (by omega)).mono ?_
  rintro e wx2 ⟨rfl, rfl⟩
  go_wp2
  go_ret
  exact ⟨rfl, HBw6.out⟩
end Go.Proofs.Ytimpgbifnijkkaa
