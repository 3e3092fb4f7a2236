/- The polynomial that is made from a table is the one with that table. -/
import Derived.Test.YtljijnanmpajaaaGreatZJ
import Derived.Test.YtljijnanmpajaaaGreatLJ
namespace Go.Proofs.YtljijnanmpajaaaGreat
open Go.RowKit
theorem tb_withZ {m : Nat} {t : Nat → Int} (h : isSz (m : Int) = true) (ht : ∀ i, El (m : Int) (t i)) : Tb m (redR m (tms m t) m) (redn m (tms m t) m) t :=
  (tb_red h (tms_el h ht) m).like fun a ha => by
    rw [← ipl_tab h ht a ha]
    exact lsum_congr' fun j _ => by rw [tms_same h ht]
theorem ftl_ptlZ {m : Nat} {t : Nat → Int} (h : isSz (m : Int) = true) (ht : ∀ i, i < m → El (m : Int) (t i)) : ftl m t = ptl m t := by
  have hc := clm_el h ht
  rw [← ((tb_withZ h hc).like fun a ha => show clm m t a = t a by simp [clm, ha]).same h, from_same' h hc]
  rfl
end Go.Proofs.YtljijnanmpajaaaGreat
