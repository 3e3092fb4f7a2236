/- A bundle of texts: IK IN. -/
import Derived.Deep.RegionHeld3
import Derived.Test.YtlhcokblbkiafaaKI
import Derived.Test.YtlhcokblbkiafaaKA
import Derived.Test.YtlhcokblbkiafaaKG
namespace Go.Proofs.Ytlhcokblbkiafaa
open Go.RowKit
/-- Between two places of a row. -/
def iplI (m : Nat) (t : Nat → Int) (a s : Nat) : Nat → Int := fun j => if j < s then ipl m t (a + 1) j else ipl m t a j
theorem iplI_step (m : Nat) (t : Nat → Int) (a s : Nat) : iplI m t a (s + 1) = upd (iplI m t a s) s (addF m (iplI m t a s s) (mulF m (t a) (cf m (a : Int) s))) := by
  funext j
  by_cases e : j = s
  · subst e
    rw [upd_at]
    simp only [iplI, Nat.lt_irrefl, if_false, Nat.lt_succ_self, if_true]
    rfl
  · rw [upd_ne _ _ _ _ e]
    unfold iplI
    by_cases hj : j < s
    · rw [if_pos hj, if_pos (by omega)]
    · rw [if_neg hj, if_neg (by omega)]
theorem iplI_start (m : Nat) (t : Nat → Int) (a : Nat) : iplI m t a 0 = ipl m t a := by
  funext j
  simp [iplI]
theorem iplI_end (m : Nat) (t : Nat → Int) (a : Nat) : fl (iplI m t a m) m = fl (ipl m t (a + 1)) m := fl_congr fun i hi => by simp [iplI, hi]
theorem ipl_zero (m : Nat) (t : Nat → Int) (N : Nat) : List.replicate N 0 = fl (ipl m t 0) N := by
  refine List.ext_getElem (by simp [fl]) fun j h1 h2 => ?_
  simp [fl, ipl, lsum]
theorem Row.lit0one (w : World) (a : Int) : Row (w.alloc (.cells #[.int .i64 a] 3)) w.heap.size (.slice (some ⟨w.heap.size, 0, none⟩) 1 1) (fl (one0 a) 1) := by
  have := World.ownsRow_lit (base := w.heap.size) (e := 3) (size := 1) w #[.int .i64 a] 1 (Nat.le_refl _) (by unfold maxLen; omega) rfl
  exact this
theorem one0_past (a : Int) : ∀ i, 1 ≤ i → one0 a i = 0 := fun i hi => if_neg (by omega)
set_option maxRecDepth 100000 in
set_option maxHeartbeats 4000000 in
/-- spec.plCompose. -/
theorem plCompose_any (m n k : Nat) (v1 v2 : Value) (f g : Nat → Int) (w : World) (h : isSz (m : Int) = true) (hv1 : Sl w v1 (fl f n)) (hv2 : Sl w v2 (fl g k)) (hf : ∀ i, El (m : Int) (f i)) (hg : ∀ i, El (m : Int) (g i)) (hn : n ≤ 50) (hk : k ≤ 50) :
    Calls Try.prog 67 #[.int .i64 m, v1, v2] w fun e w' => ∃ v', e = .returned v' ∧ Row w' w.heap.size v' (fl (cmp m f n g k n).1 (cmp m f n g k n).2) ∧ Below w.heap.size w w' := by
  have hq := isSz_le (m : Int) h
  have HOK := Lib.hid (fun s => cmp_ok (n := n) (k := k) h hf hg s)
  have HT := Lib.hid (fun (s : Nat) v w' (hb : Below w.heap.size w w') (hs : Sl w' v (fl (cmp m f n g k s).1 (cmp m f n g k s).2)) => plTimes_any m (cmp m f n g k s).2 k v v2 (cmp m f n g k s).1 g w' h hs (hv2.below hb (Nat.le_refl _)) (HOK.out s).el hg (by have := (HOK.out s).le; omega) (by omega))
  have HA := Lib.hid (fun (s : Nat) v vl w' (hs : Sl w' v (fl (mulP m (cmp m f n g k s) g k).1 (mulP m (cmp m f n g k s) g k).2)) (hl : Sl w' vl (fl (one0 (f (n - 1 - s))) 1)) =>
    plPlus_any m (mulP m (cmp m f n g k s) g k).2 1 v vl (mulP m (cmp m f n g k s) g k).1 (one0 (f (n - 1 - s))) w' h hs hl (mulP_ok h (HOK.out s) hg).el (one0_el h (hf _)) (mulP_ok h (HOK.out s) hg).past (one0_past _) (by have := (mulP_ok (k := k) h (HOK.out s) hg).le; omega) (by omega))
  obtain ⟨a1, cap1, rfl, p1⟩ := hv1.parts
  have HP1 := Lib.hid p1
  have HF2 : Hid (∃ a cap, v2 = .slice a k cap) := Lib.hid (by obtain ⟨a, cap, e, _⟩ := hv2.parts; exact ⟨a, cap, e⟩)
  have H00 : Hid (fl (cmp m f n g k 0).1 (cmp m f n g k 0).2 = []) := Lib.hid rfl
  have HTE : Hid (∀ s, fl (redR m (cou m (cmp m f n g k s).1 g k (cmp m f n g k s).2) ((cmp m f n g k s).2 + k)) (redn m (cou m (cmp m f n g k s).1 g k (cmp m f n g k s).2) ((cmp m f n g k s).2 + k)) = fl (mulP m (cmp m f n g k s) g k).1 (mulP m (cmp m f n g k s) g k).2) := Lib.hid fun _ => rfl
  have HAE : Hid (∀ s, fl (pls m (mulP m (cmp m f n g k s) g k).1 (one0 (f (n - 1 - s)))) (sn (pls m (mulP m (cmp m f n g k s) g k).1 (one0 (f (n - 1 - s)))) (max (mulP m (cmp m f n g k s) g k).2 1)) = fl (cmp m f n g k (s + 1)).1 (cmp m f n g k (s + 1)).2) := Lib.hid fun _ => rfl
  obtain ⟨a2, cap2, rfl⟩ := HF2.out
  clear p1 hv1 hv2 hf hg h HF2
  generalize hPL : (fun s => fl (cmp m f n g k s).1 (cmp m f n g k s).2) = PL at *
  have HPL : Hid (∀ s, fl (cmp m f n g k s).1 (cmp m f n g k s).2 = PL s) := Lib.hid fun s => by rw [← hPL]
  clear hPL
  go_enter Try.func67, Try.ntmps67
  go_wp2_with fail
  go_loopw [7, 8] (fun vo vi wr => ∃ s : Nat, s ≤ n ∧ vi = .int .i64 ((n : Int) - 1 - (s : Int)) ∧ Row wr w.heap.size vo (fl (cmp m f n g k s).1 (cmp m f n g k s).2) ∧ Below w.heap.size w wr) (fun _ vi _ => (intOf vi + 1).toNat)
  case atStart => exact ⟨0, Nat.zero_le _, by simp, by rw [H00.out]; exact Row.nil _ _, Below.refl _ _⟩
  case round =>
    obtain ⟨s, hsn, rfl, hr, hbw⟩ := hrel
    have HRr := Lib.hid hr; clear hr
    by_cases hlt : s < n
    · obtain ⟨b1, off1, rfl, hb1, hc1⟩ := HP1.out (by omega)
      have hcell := (hbw.cell (p := ⟨b1, off1 + (n - 1 - s), none⟩) hb1).trans (hc1 (n - 1 - s) (by omega))
      have hbl : b1 < wr.heap.size := by have := hbw.size; omega
      have HBW := Lib.hid hbw; clear hbw hc1
      have HT' := Lib.hid (HT.out s)
      have HA' := Lib.hid (HA.out s)
      have HTE' := Lib.hid (HTE.out s)
      have HAE' := Lib.hid (HAE.out s)
      have hz : (n : Int) - 1 - (s : Int) = ((n - 1 - s : Nat) : Int) := by omega
      have hin : n - 1 - s < n := by omega
      rw [hz]
      generalize hi : n - 1 - s = i at *
      have HI := Lib.hid hi; clear hi hz
      have hin' : (i : Int) < (n : Int) := by omega
      generalize f i = x at *
      have HKEEP : Hid (∀ w', Below wr.heap.size wr w' → w'.cell? ⟨b1, off1 + i, none⟩ = some (.int .i64 x)) := Lib.hid fun w' hb => (hb.cell (p := ⟨b1, off1 + i, none⟩) hbl).trans hcell
      go_wp2_with fail
      go_region_held3 (fun w' => w'.cell? ⟨b1, off1 + i, none⟩ = some (.int .i64 x))
        (exact HKEEP.out _ (by (try have hb3 := HB3.out); (try have hb4 := HB4.out); (repeat' (first | (with_reducible assumption) | (with_reducible exact Below.refl _ _) | (with_reducible refine below_drewN ?_ _) | (with_reducible refine Below.drew ?_) | (with_reducible refine Below.alloc ?_ ?_ _) | (with_reducible refine Below.setCell ?_ ?_ _) | (with_reducible refine Below.trans ?_ (Below.mono (by assumption) ?_)) | (with_reducible exact Nat.le_refl _) | (with_reducible assumption) | omega | (simp; omega) | (simp; done)))))
        (first
        | (go_at_call 93; refine (HT'.out _ _ (by have hb := HBW.out; have hzb := hb.size; (repeat' (first | (with_reducible assumption) | (with_reducible exact Below.refl _ _) | (with_reducible refine below_drewN ?_ _) | (with_reducible refine Below.drew ?_) | (with_reducible refine Below.alloc ?_ ?_ _) | (with_reducible refine Below.setCell ?_ ?_ _) | (with_reducible refine Below.trans ?_ (Below.mono (by assumption) ?_)) | (with_reducible exact Nat.le_refl _) | (with_reducible assumption) | omega | (simp; omega) | (simp; done)))) (Row.below HRr.out (by (repeat' (first | (with_reducible assumption) | (with_reducible exact Below.refl _ _) | (with_reducible refine below_drewN ?_ _) | (with_reducible refine Below.drew ?_) | (with_reducible refine Below.alloc ?_ ?_ _) | (with_reducible refine Below.setCell ?_ ?_ _) | (with_reducible refine Below.trans ?_ (Below.mono (by assumption) ?_)) | (with_reducible exact Nat.le_refl _) | (with_reducible assumption) | omega | (simp; omega) | (simp; done))))).sl).mono ?_; rintro e w3 ⟨v3, rfl, hr3, hb3⟩; have hz3 := hb3.size; (try simp at hz3); rw [HTE'.out] at hr3; have HR3 := Lib.hid hr3; clear hr3; have HB3 := Lib.hid hb3; clear hb3)
        | (go_at_call 92; refine (HA'.out _ _ _ (by first | exact HR3.out.sl | exact (Row.below HR3.out (by (repeat' (first | (with_reducible assumption) | (with_reducible exact Below.refl _ _) | (with_reducible refine below_drewN ?_ _) | (with_reducible refine Below.drew ?_) | (with_reducible refine Below.alloc ?_ ?_ _) | (with_reducible refine Below.setCell ?_ ?_ _) | (with_reducible refine Below.trans ?_ (Below.mono (by assumption) ?_)) | (with_reducible exact Nat.le_refl _) | (with_reducible assumption) | omega | (simp; omega) | (simp; done))))).sl) (by first | exact (Row.lit0one _ _).sl | exact (Row.below (Row.lit0one _ _) HB3.out).sl | exact (Row.below (Row.drew (Row.lit0one _ _)) HB3.out).sl)).mono ?_; rintro e w4 ⟨v4, rfl, hr4, hb4⟩; have hz4 := hb4.size; (try simp at hz4); rw [HAE'.out] at hr4; have HR4 := Lib.hid hr4; clear hr4; have HB4 := Lib.hid hb4; clear hb4))
      all_goals
        go_wp2
        go_roundw
        case rel =>
          have hI := HI.out
          have hb := HBW.out
          have hzb := hb.size
          have hb3 := HB3.out
          have hb4 := HB4.out
          exact ⟨s + 1, by omega, by rw [← hI]; exact congrArg (Value.int .i64) (by omega), HR4.out.mono (by (try simp); omega), by (repeat' (first | (with_reducible assumption) | (with_reducible exact Below.refl _ _) | (with_reducible refine below_drewN ?_ _) | (with_reducible refine Below.drew ?_) | (with_reducible refine Below.alloc ?_ ?_ _) | (with_reducible refine Below.setCell ?_ ?_ _) | (with_reducible refine Below.trans ?_ (Below.mono (by assumption) ?_)) | (with_reducible exact Nat.le_refl _) | (with_reducible assumption) | omega | (simp; omega) | (simp; done)))⟩
        case measure => (simp [intOf]; try omega)
    · obtain rfl : n = s := by omega
      have HBW := Lib.hid hbw; clear hbw
      go_wp2
      go_ret
      exact ⟨_, rfl, HRr.out, HBW.out⟩
end Go.Proofs.Ytlhcokblbkiafaa
