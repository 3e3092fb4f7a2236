/- DifferencePoly, DifferenceCounts and SecondDifference, of both, by contracts; the walks of their laws. -/
import Derived.Test.YtimpgbifnijkkabGreatSB
import Derived.Test.YtimpgbifnijkkabGreatSG
import Derived.Deep.RegionHeld3
namespace Go.Proofs.YtimpgbifnijkkabGreat
open Go.RowKit
/-- The table of a list. -/
abbrev tbl (m : Nat) (l : List Int) : Nat → Int := tabF (m : Int) (fun i => l.getD i 0) l.length
theorem tb_goodE {m : Nat} {l : List Int} (h : isSz (m : Int) = true) (hg : good (m : Int) l = true) : Tb m (fun i => l.getD i 0) l.length (tbl m l) := by
  have hf := all_el h (good_parts hg).2
  refine Tb.like (t := fun a => val m (fun i => l.getD i 0) l.length (a : Int)) ?_ fun a ha => (hor_val h (El.nat ha) hf l.length).symm
  have hp := good_parts hg
  have hel := all_el h hp.2
  have hz : ∀ i, l.length ≤ i → (fun i => l.getD i 0) i = 0 := fun i hi => by simp [List.getD, hi]
  refine ⟨hel, by have := hp.1; omega, hz, ?_, fun a ha => val_more h hel (El.nat ha) (by have := hp.1; omega) hz⟩
  cases hn : l.length with
  | zero => rfl
  | succ k =>
    have h0 : 0 < l.length := by omega
    have hl := good_last hp.1 hp.2 h0
    rw [hg, hn, Nat.add_sub_cancel] at hl
    have := of_decide_eq_true hl.symm
    rw [sn, if_neg]
    show l.getD k 0 ≠ 0
    omega
theorem tbl_el {m : Nat} {l : List Int} (h : isSz (m : Int) = true) (hg : good (m : Int) l = true) (i : Nat) (hi : i < m) : El (m : Int) (tbl m l i) := tab_el (k := l.length) h (all_el h (good_parts hg).2) i hi
theorem tableT (m : Nat) (v : Value) (t : Nat → Int) (w : World) (h : isSz (m : Int) = true) (hv : IsP w v m t) :
    Calls Tryz.prog 96 #[polyE (m : Int) v] w fun e w' => ∃ g', e = .returned (.slice (some ⟨g', 0, none⟩) m m) ∧ w.heap.size ≤ g' ∧ Blk w' g' m ∧ Els w' g' (m : Int) t m ∧ Below w.heap.size w w' := by
  have hq := isSz_two h
  obtain ⟨g, k, cap, f, rfl, hg, he, hf, hk, htab⟩ := hv.tab h
  exact (tableM m g k cap f w h hg he (fun i _ => hf i) (by omega)).mono fun e w'' ⟨g', h1, h2, h3, h4, h5⟩ => ⟨g', h1, h2, h3, h4.like' htab, h5⟩
/-- An element other than 0. -/
def pos (q a : Int) : Bool := inE q a && decide (0 < a)
theorem pos_inN (q a : Int) : pos q a = inN q a := by
  unfold pos inN
  cases h : inE q a with
  | false => rfl
  | true =>
    have := (inE_yes h).2.1
    by_cases h0 : a = 0
    · subst h0; rfl
    · rw [decide_eq_true (show 0 < a by omega), decide_eq_false h0]; rfl
end Go.Proofs.YtimpgbifnijkkabGreat
