/- IsAdditive and IsMoved, of both, by contracts; the walks of their laws. -/
import Derived.Test.YtgndlpdcebmgmacRB
import Derived.Test.YtgndlpdcebmgmacRC
namespace Go.Proofs.Ytgndlpdcebmgmac
open Go.RowKit
theorem getD_past {l : List Int} (i : Nat) (h : l.length ≤ i) : l.getD i 0 = 0 := by simp [List.getD, h]
theorem tabF_val {m n : Nat} {f : Nat → Int} (h : isSz (m : Int) = true) (hf : ∀ i, El (m : Int) (f i)) (hn : n ≤ m) (hz : ∀ i, n ≤ i → f i = 0) (a : Nat) (ha : a < m) : tabF (m : Int) f n a = val m f m (a : Int) := by
  show hor m (a : Int) f n n = _
  rw [hor_val h (El.nat ha) hf n, val_more h hf (El.nat ha) hn hz]
/-- A list is additive exactly if its terms are. -/
theorem ad_list {m : Nat} {l : List Int} (h : isSz (m : Int) = true) (hg : good (m : Int) l = true) : adI m (tabF (m : Int) (fun i => l.getD i 0) l.length) = adC m (fun i => l.getD i 0) 0 l.length := by
  have hlen := (good_parts hg).1
  have hf := all_el h (good_parts hg).2
  exact ad_tell h hf (by omega) getD_past fun a ha => tabF_val h hf (by omega) getD_past a ha
theorem ad_listM {m : Nat} {l : List Int} (h : isSz (m : Int) = true) (hg : good (m : Int) l = true) : adI m (fun a => subF m (tabF (m : Int) (fun i => l.getD i 0) l.length a) (tabF (m : Int) (fun i => l.getD i 0) l.length 0)) = adC m (fun i => l.getD i 0) 1 l.length := by
  have hlen := (good_parts hg).1
  have hf := all_el h (good_parts hg).2
  exact ad_moved h hf (by omega) getD_past fun a ha => tabF_val h hf (by omega) getD_past a ha
end Go.Proofs.Ytgndlpdcebmgmac
