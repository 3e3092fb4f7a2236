/- What FnSumsByFormulas asks of a quadratic: it is reduced, and the sum of characters of its values is the formula's. -/
import Derived.Test.YtpjlolnnbbgikaaTX
namespace Go.Proofs.Ytpjlolnnbbgikaa
open Go.RowKit
theorem quad_el {m : Nat} (h : isSz (m : Int) = true) {a b c : Int} (ha : El (m : Int) a) (hb : El (m : Int) b) (hc : El (m : Int) c) (i : Nat) : El (m : Int) ([c, b, a].getD i 0) := by
  match i with
  | 0 => exact hc
  | 1 => exact hb
  | 2 => exact ha
  | _ + 3 => exact El.zero h
theorem sn_stopU {f : Nat → Int} {k : Nat} (h : f k ≠ 0) : sn f (k + 1) = k + 1 := by simp [sn, h]
theorem quad_red {m : Nat} (h : isSz (m : Int) = true) (ho : (m : Int) % 2 = 1) {a b c : Int} (ha : El (m : Int) a) (h0 : a ≠ 0) (hb : El (m : Int) b) (hc : El (m : Int) c) :
    fl (redR m (fun i => [c, b, a].getD i 0) 3) (redn m (fun i => [c, b, a].getD i 0) 3) = [c, b, a] := by
  have hq := isSz_le (m : Int) h
  have h3 : 3 ≤ m := by omega
  have hs := redR_small m _ h (quad_el h ha hb hc) 3 h3
  have e : redn m (fun i => [c, b, a].getD i 0) 3 = 3 := by
    unfold redn
    have hz := sn_zero (redR m (fun i => [c, b, a].getD i 0) 3) 3 (m - 3) fun i h1 _ => by rw [hs, if_neg (by omega)]
    rw [show 3 + (m - 3) = m by omega] at hz
    rw [hz]
    have hne : redR m (fun i => [c, b, a].getD i 0) 3 2 ≠ 0 := by
      rw [hs, if_pos (by omega)]
      exact h0
    exact sn_stopU hne
  rw [e, fl_congr (g := fun i => [c, b, a].getD i 0) fun i hi => by rw [hs, if_pos hi]]
  rfl
theorem quad_good {m : Nat} (h : isSz (m : Int) = true) (ho : (m : Int) % 2 = 1) {a b c : Int} (ha : El (m : Int) a) (h0 : a ≠ 0) (hb : El (m : Int) b) (hc : El (m : Int) c) : good (m : Int) [c, b, a] = true := by
  have hq := isSz_le (m : Int) h
  have h3 : 3 ≤ (m : Int) := by omega
  have a0 := ha.1
  have a1 : 0 < a := by omega
  simp [good, inF, h3, a1, ha.1, ha.2, hb.1, hb.2, hc.1, hc.2]
theorem quad_chs {m : Nat} (h : isSz (m : Int) = true) (ho : (m : Int) % 2 = 1) {a b c : Int} (ha : El (m : Int) a) (h0 : a ≠ 0) (hb : El (m : Int) b) (hc : El (m : Int) c) : chs m (tbo m [c, b, a]) = qds m a b c := by
  rw [← qds_all h ho ha h0 hb hc]
  refine csm_congr m fun x hx => ?_
  have hxe : El (m : Int) (x : Int) := ⟨by omega, by omega⟩
  show chi m (addF m (mulF m (addF m (mulF m (addF m (mulF m 0 (x : Int)) a) (x : Int)) b) (x : Int)) c) = _
  rw [(mul_zero' h hxe).1, (add_zero' h ha).2]
end Go.Proofs.Ytpjlolnnbbgikaa
