/- PowerOfX, DicksonOf, JoinDickson, of both, by contracts; the walks of their laws. -/
import Derived.Test.YtgndlpdcebmgmabNC
import Derived.Test.YtgndlpdcebmgmabNF
import Derived.Test.YtgndlpdcebmgmabNH
namespace Go.Proofs.Ytgndlpdcebmgmab
open Go.RowKit
theorem ptl_len (m : Nat) (t : Nat → Int) : (ptl m t).length ≤ m := by
  rw [ptl, fl_len]
  exact sn_le _ _
theorem ptl_congr {m : Nat} {t u : Nat → Int} (h : ∀ x, x < m → t x = u x) : ptl m t = ptl m u := by
  have e : ipl m t m = ipl m u m := by
    funext j
    unfold ipl
    exact lsum_congr fun a ha => by rw [h a ha]
  unfold ptl
  rw [e]
theorem unt_set (n : Nat) : (List.replicate (n + 1) (0 : Int)).set n 1 = fl (unt n) (n + 1) := by
  have e : List.replicate (n + 1) (0 : Int) = fl (fun _ => 0) (n + 1) := by
    refine List.ext_getElem (by simp [fl_len]) fun i h1 h2 => ?_
    simp [fl]
  rw [e, fl_set]
  refine fl_congr fun i hi => ?_
  by_cases h : i = n
  · subst h
    rw [upd_at]
    exact (if_pos rfl).symm
  · rw [upd_ne _ _ _ _ h]
    exact (if_neg h).symm
theorem Row.cellN {w : World} {B g N : Nat} (h : Row w B (.slice (some ⟨g, 0, none⟩) N N) (List.replicate N 0)) (i : Nat) (hi : i < N) : w.cell? ⟨g, i, none⟩ = some (.int .i64 0) := by
  have e : (List.replicate N (0 : Int)).length = N := by simp
  have h' : Row w B (.slice (some ⟨g, 0, none⟩) (List.replicate N (0 : Int)).length N) (List.replicate N 0) := by rw [e]; exact h
  have := h'.cell i (by omega)
  rw [this]
  congr 2
  simp [List.getD, hi]
set_option maxHeartbeats 1000000 in
/-- spec.kdPower, from where its row is made. -/
theorem kdPower_any (m n : Nat) (w : World) (h : isSz (m : Int) = true) (hn : n ≤ 900) :
    Calls Try.prog 46 #[.int .i64 m, .int .i64 n] w fun e w' => ∃ v, e = .returned v ∧ RowT w' w.heap.size v m (fun a => pw m (a : Int) n) ∧ Below w.heap.size w w' := by
  have hq := isSz_le (m : Int) h
  have HTB := Lib.hid (tb_unt h n)
  have hil := idx_lt m n (by omega)
  obtain ⟨i0, hi, iz0, iz1, iz2⟩ := info_parts Try.infoI
  clear h
  by_cases hnm : n < m
  · have he : idx m n = n := idx_small m n hnm
    rw [he] at HTB hil
    have hnm' : ¬ (m : Int) ≤ (n : Int) := by omega
    go_enter Try.func46, Try.ntmps46
    go_wp2_with (at_make; refine wpList_make_full _ rfl _ _ 25 rfl w.heap.size 3 i0 (.int .i64 0) 1 Try.underlying25 hi iz0 iz1 .i64 .i64 _ _ (n + 1) rfl rfl rfl rfl ?c3 ?c4 ?c5 ?_)
    case c3 => first | omega | (rw [iz2]; omega)
    case c4 => unfold maxLen; omega
    intro w1 hown hgrow
    have hr : Row w1 w.heap.size (.slice (some ⟨w.heap.size, 0, none⟩) (n + 1) (n + 1)) (List.replicate (n + 1) 0) := by
      have := Row.madeF (fun _ => 0) hown
      rw [show List.replicate (n + 1) (0 : Int) = fl (part0 (fun _ => 0) 0) (n + 1) from part0_zero _ _]
      exact this
    have hb1 : Below w.heap.size w w1 := (Below.refl w.heap.size w).grown hgrow (Nat.le_refl _) (fun k hk => by cases hk)
    have hc := Row.cellN hr n (by omega)
    have hf := hr.frozen (by simp) n
    have hr2 := hr.store (by simp) n 1
    rw [unt_set] at hr2
    have HR2 := Lib.hid hr2
    have HB1 := Lib.hid hb1
    have hgl : w.heap.size < w1.heap.size := (hr.lt w.heap.size rfl).2
    clear hr hr2 hb1 hown hgrow
    go_wp2
    go_ret
    exact ⟨_, rfl, ⟨_, _, HR2.out, HTB.out⟩, by have hb1 := HB1.out; (repeat' (first | (with_reducible assumption) | (with_reducible exact Below.refl _ _) | (with_reducible refine below_drewN ?_ _) | (with_reducible refine Below.drew ?_) | (with_reducible refine Below.alloc ?_ ?_ _) | (with_reducible refine Below.setCell ?_ ?_ _) | (with_reducible refine Below.trans ?_ (Below.mono (by assumption) ?_)) | (with_reducible exact Nat.le_refl _) | (with_reducible assumption) | omega | (simp; omega) | (simp; done)))⟩
  · have hnm' : (m : Int) ≤ (n : Int) := by omega
    have z1 : (n : Int) - 1 = ((n - 1 : Nat) : Int) := by omega
    have z2 : (m : Int) - 1 = ((m - 1 : Nat) : Int) := by omega
    have z3 : ((n - 1 : Nat) : Int) % ((m - 1 : Nat) : Int) = (((n - 1) % (m - 1) : Nat) : Int) := rfl
    have hie : idx m n = (n - 1) % (m - 1) + 1 := if_neg (by omega)
    rw [hie] at HTB hil
    have hpos : (0 : Int) < ((m - 1 : Nat) : Int) := by omega
    have hne : (((m - 1 : Nat) : Int) == 0) = false := by simp; omega
    have b1 : n - 1 ≤ 900 := by omega
    have b2 : m - 1 ≤ 16 := by omega
    generalize (n - 1) % (m - 1) = r at *
    generalize n - 1 = n1 at *
    generalize m - 1 = m1 at *
    go_enter Try.func46, Try.ntmps46
    go_wp2_with (at_make; refine wpList_make_full _ rfl _ _ 25 rfl w.heap.size 3 i0 (.int .i64 0) 1 Try.underlying25 hi iz0 iz1 .i64 .i64 _ _ (r + 1 + 1) rfl rfl rfl rfl ?c3 ?c4 ?c5 ?_)
    case c3 => first | omega | (rw [iz2]; omega)
    case c4 => unfold maxLen; omega
    intro w1 hown hgrow
    have hr : Row w1 w.heap.size (.slice (some ⟨w.heap.size, 0, none⟩) (r + 1 + 1) (r + 1 + 1)) (List.replicate (r + 1 + 1) 0) := by
      have := Row.madeF (fun _ => 0) hown
      rw [show List.replicate (r + 1 + 1) (0 : Int) = fl (part0 (fun _ => 0) 0) (r + 1 + 1) from part0_zero _ _]
      exact this
    have hb1 : Below w.heap.size w w1 := (Below.refl w.heap.size w).grown hgrow (Nat.le_refl _) (fun k hk => by cases hk)
    have hc := Row.cellN hr (r + 1) (by omega)
    have hf := hr.frozen (by simp) (r + 1)
    have hr2 := hr.store (by simp) (r + 1) 1
    rw [unt_set] at hr2
    have HR2 := Lib.hid hr2
    have HB1 := Lib.hid hb1
    have hgl : w.heap.size < w1.heap.size := (hr.lt w.heap.size rfl).2
    clear hr hr2 hb1 hown hgrow
    go_wp2
    go_ret
    exact ⟨_, rfl, ⟨_, _, HR2.out, HTB.out⟩, by have hb1 := HB1.out; (repeat' (first | (with_reducible assumption) | (with_reducible exact Below.refl _ _) | (with_reducible refine below_drewN ?_ _) | (with_reducible refine Below.drew ?_) | (with_reducible refine Below.alloc ?_ ?_ _) | (with_reducible refine Below.setCell ?_ ?_ _) | (with_reducible refine Below.trans ?_ (Below.mono (by assumption) ?_)) | (with_reducible exact Nat.le_refl _) | (with_reducible assumption) | omega | (simp; omega) | (simp; done)))⟩
/-- What JoinDickson is asked of. -/
def in20 (x : Int) : Bool := decide (0 ≤ x) && decide (x ≤ 20)
theorem in20_nat {x : Int} (h : in20 x = true) : ∃ k : Nat, x = (k : Int) ∧ k ≤ 20 := by
  simp only [in20, Bool.and_eq_true, decide_eq_true_eq] at h
  exact ⟨x.toNat, by omega, by omega⟩
theorem in20_of {k : Nat} (h : k ≤ 20) : (decide (0 ≤ (k : Int)) && decide ((k : Int) ≤ 20)) = true := by
  simp only [Bool.and_eq_true, decide_eq_true_eq]
  omega
theorem in20_no {x : Int} (h : in20 x = false) : x < 0 ∨ 0 ≤ x ∧ 20 < x := by
  simp only [in20, Bool.and_eq_false_iff, decide_eq_false_iff_not] at h
  omega
/-- The table of JoinDickson. -/
def jdt (m M N : Nat) (a : Int) : Nat → Int := fun x => dkt m (pw m a N) M (dkt m a N x).toNat
end Go.Proofs.Ytgndlpdcebmgmab
