/- slices.Index and slices.Contains of an element, by contracts. -/
import Derived.Test.YtkjpkdecoeoghaaNP
import Derived.BigQuiet
import Derived.Deep.RegionHeld3
namespace Go.Proofs.Ytkjpkdecoeoghaa
open Go.RowKit
set_option maxRecDepth 100000 in
set_option maxHeartbeats 4000000 in
/-- slices.Index of an element, in a list from its place o on. -/
theorem indexN (m g o n cap : Nat) (f : Nat → Int) (x : Int) (w : World) (h : isSz (m : Int) = true) (hx : El (m : Int) x) (hf : ∀ i, i < o + n → El (m : Int) (f i)) (hg : g < w.heap.size) (he : Els w g (m : Int) f (o + n)) (hn : o + n ≤ 1000) (a : Option Addr) (ha : 0 < n → a = some ⟨g, o * 7, none⟩) :
    Calls Try.prog 65 #[.slice a n cap, elE (m : Int) x] w fun e w' => ∃ d : Int, e = .returned (.int .i64 d) ∧ ((d = -1 ∧ ∀ j, j < n → f (o + j) ≠ x) ∨ ∃ k : Nat, k < n ∧ d = k ∧ f (o + k) = x ∧ ∀ j, j < k → f (o + j) ≠ x) ∧ Below w.heap.size w w' := by
  have HEQ := Lib.hid (fun (j : Nat) (hj : j < n) w => eq_dgr (m : Int) x (f (o + j)) h hx.1 hx.2 (hf (o + j) (by omega)).1 (hf (o + j) (by omega)).2 w)
  have HEL : Hid (∀ (j : Nat), j < n → ∀ w', Below w.heap.size w w' → w'.cell? ⟨g, (o + j) * 7, none⟩ = some (.int .i64 m) ∧ w'.cell? ⟨g, (o + j) * 7 + 1, none⟩ = some (.int .i64 (pr m)) ∧ w'.cell? ⟨g, (o + j) * 7 + 2, none⟩ = some (.int .i64 (pl m)) ∧ w'.cell? ⟨g, (o + j) * 7 + 3, none⟩ = some (.int .i64 (dg m (f (o + j)) 0)) ∧ w'.cell? ⟨g, (o + j) * 7 + 4, none⟩ = some (.int .i64 (dg m (f (o + j)) 1)) ∧ w'.cell? ⟨g, (o + j) * 7 + 5, none⟩ = some (.int .i64 (dg m (f (o + j)) 2)) ∧ w'.cell? ⟨g, (o + j) * 7 + 6, none⟩ = some (.int .i64 (dg m (f (o + j)) 3))) := Lib.hid fun j hj w' hb => (he.below hb hg) (o + j) (by omega)
  clear he hf hx h
  by_cases h0 : n = 0
  · subst h0
    clear ha
    go_enter Try.func65, Try.ntmps65
    go_wp2_with fail
    go_loopw [8] (fun vi wr => vi = .int .i64 0 ∧ Below w.heap.size w wr) (fun _ _ => 0)
    case atStart => exact ⟨rfl, by (repeat' (first | (with_reducible assumption) | (with_reducible exact Below.refl _ _) | (with_reducible refine below_drewN ?_ _) | (with_reducible refine Below.drew ?_) | (with_reducible refine Below.alloc ?_ ?_ _) | (with_reducible refine Below.setCell ?_ ?_ _) | (with_reducible refine Below.trans ?_ (Below.mono (by assumption) ?_)) | (with_reducible exact Nat.le_refl _) | (with_reducible assumption) | omega | (simp; omega) | (simp; done)))⟩
    case round =>
      obtain ⟨rfl, hb⟩ := hrel
      go_wp2
      go_ret
      exact ⟨_, rfl, .inl ⟨rfl, fun j hj => absurd hj (Nat.not_lt_zero _)⟩, hb⟩
  · obtain rfl := ha (by omega)
    go_enter Try.func65, Try.ntmps65
    go_wp2_with fail
    have hx0 : Hid ((w.alloc (eblk (m : Int) x)).heap[w.heap.size]? = some (eblk (m : Int) x)) := Lib.hid (heap_alloc_new w _)
    go_loopw [8] (fun vi wr => ∃ k : Nat, k ≤ n ∧ vi = .int .i64 k ∧ (∀ j, j < k → f (o + j) ≠ x) ∧ Below (w.heap.size + 1) (w.alloc (eblk (m : Int) x)) wr) (fun vi _ => n - (intOf vi).toNat)
    case atStart => exact ⟨0, Nat.zero_le _, rfl, fun j hj => absurd hj (Nat.not_lt_zero _), by (repeat' (first | (with_reducible assumption) | (with_reducible exact Below.refl _ _) | (with_reducible refine below_drewN ?_ _) | (with_reducible refine Below.drew ?_) | (with_reducible refine Below.alloc ?_ ?_ _) | (with_reducible refine Below.setCell ?_ ?_ _) | (with_reducible refine Below.trans ?_ (Below.mono (by assumption) ?_)) | (with_reducible exact Nat.le_refl _) | (with_reducible assumption) | omega | (simp; omega) | (simp; done)))⟩
    case round =>
      obtain ⟨k, hk, rfl, hno, hb⟩ := hrel
      have HBW : Hid (Below w.heap.size w wr) := Lib.hid (by (repeat' (first | (with_reducible assumption) | (with_reducible exact Below.refl _ _) | (with_reducible refine below_drewN ?_ _) | (with_reducible refine Below.drew ?_) | (with_reducible refine Below.alloc ?_ ?_ _) | (with_reducible refine Below.setCell ?_ ?_ _) | (with_reducible refine Below.trans ?_ (Below.mono (by assumption) ?_)) | (with_reducible exact Nat.le_refl _) | (with_reducible assumption) | omega | (simp; omega) | (simp; done))))
      have hsz := hb.size
      simp at hsz
      obtain ⟨s0, s1, s2, s3, s4, s5, s6, sf, sl⟩ := seven ((hb.block _ (by omega)).trans hx0.out)
      have HB := Lib.hid hb; clear hb
      by_cases hlt : k < n
      · obtain ⟨c0, c1, c2, c3, c4, c5, c6⟩ := HEL.out k hlt wr HBW.out
        have HE := Lib.hid (HEQ.out k hlt)
        have HNO := Lib.hid hno; clear hno
        have hof : ((o * 7 : Nat) : Int) + (k : Int) * 7 = (((o + k) * 7 : Nat) : Int) := by omega
        have hofn : o * 7 + k * 7 = (o + k) * 7 := by omega
        have hof1 : ∀ b, o * 7 + (k * 7 + b) = (o + k) * 7 + b := fun b => by omega
        obtain ⟨y, hy⟩ : ∃ y, f (o + k) = y := ⟨_, rfl⟩
        rw [hy] at c3 c4 c5 c6 HE
        have HY := Lib.hid hy; clear hy
        cases hd : decide (x = y)
        · rw [hd] at HE
          have HN : Hid (f (o + k) ≠ x) := Lib.hid fun e => (of_decide_eq_false hd) (by rw [← HY.out]; exact e.symm)
          clear hd HY
          have heq0 := HE.out
          go_wp2_with fail
          go_quiet (fail)
          go_wp2
          go_roundw
          case rel => 
            refine ⟨k + 1, by omega, by go_num, ?_, ?_⟩
            · intro j hj
              by_cases e : j = k
              · subst e
                exact HN.out
              · exact HNO.out j (by omega)
            · have hb := HB.out
              (repeat' (first | (with_reducible assumption) | (with_reducible exact Below.refl _ _) | (with_reducible refine below_drewN ?_ _) | (with_reducible refine Below.drew ?_) | (with_reducible refine Below.alloc ?_ ?_ _) | (with_reducible refine Below.setCell ?_ ?_ _) | (with_reducible refine Below.trans ?_ (Below.mono (by assumption) ?_)) | (with_reducible exact Nat.le_refl _) | (with_reducible assumption) | omega | (simp; omega) | (simp; done)))
          case measure => simp [intOf]; omega
        · rw [hd] at HE
          have HN : Hid (f (o + k) = x) := Lib.hid (by rw [HY.out]; exact (of_decide_eq_true hd).symm)
          clear hd HY
          have heq0 := HE.out
          go_wp2_with fail
          go_quiet (fail)
          go_wp2
          go_ret
          exact ⟨_, rfl, .inr ⟨k, hlt, rfl, HN.out, HNO.out⟩, by have hb := HB.out; (repeat' (first | (with_reducible assumption) | (with_reducible exact Below.refl _ _) | (with_reducible refine below_drewN ?_ _) | (with_reducible refine Below.drew ?_) | (with_reducible refine Below.alloc ?_ ?_ _) | (with_reducible refine Below.setCell ?_ ?_ _) | (with_reducible refine Below.trans ?_ (Below.mono (by assumption) ?_)) | (with_reducible exact Nat.le_refl _) | (with_reducible assumption) | omega | (simp; omega) | (simp; done)))⟩
      · obtain rfl : n = k := by omega
        have HNO := Lib.hid hno; clear hno
        go_wp2
        go_ret
        exact ⟨_, rfl, .inl ⟨rfl, HNO.out⟩, HBW.out⟩

set_option maxHeartbeats 1000000 in
/-- slices.Contains of an element. -/
theorem containsE (m g cap : Nat) (l : List Int) (x : Int) (w : World) (h : isSz (m : Int) = true) (hx : El (m : Int) x) (hf : ∀ i, El (m : Int) (l.getD i 0)) (hg : g < w.heap.size) (he : Els w g (m : Int) (fun i => l.getD i 0) l.length) (hn : l.length ≤ 1000) (a : Option Addr) (ha : 0 < l.length → a = some ⟨g, 0, none⟩) :
    Calls Try.prog 60 #[.slice a l.length cap, elE (m : Int) x] w fun e w' => e = .returned (.bool (l.contains x)) ∧ Below w.heap.size w w' := by
  have HI := Lib.hid (fun w' (hb : Below w.heap.size w w') => indexN m g 0 l.length cap (fun i => l.getD i 0) x w' h hx (fun i _ => hf i) (by have := hb.size; omega) (by rw [Nat.zero_add]; exact he.below hb hg) (by omega) a (by rw [Nat.zero_mul]; exact ha))
  have HY : Hid (∀ k, k < l.length → l.getD k 0 = x → l.contains x = true) := Lib.hid fun k hk e => by
    rw [List.contains_iff_mem, ← e, List.getD, List.getElem?_eq_getElem hk]
    exact List.getElem_mem hk
  have HN : Hid ((∀ j, j < l.length → l.getD j 0 ≠ x) → l.contains x = false) := Lib.hid fun hh => by
    rw [← Bool.not_eq_true, List.contains_iff_mem]
    intro hm
    obtain ⟨j, hj, e⟩ := List.getElem_of_mem hm
    exact hh j hj (by rw [List.getD, List.getElem?_eq_getElem hj]; exact e)
  clear h hx hf he ha
  generalize l.contains x = r at *
  generalize l.length = n at *
  generalize (fun i => l.getD i 0) = f at *
  go_enter Try.func60, Try.ntmps60
  go_wp2_with fail
  refine (HI.out _ (by (repeat' (first | (with_reducible assumption) | (with_reducible exact Below.refl _ _) | (with_reducible refine below_drewN ?_ _) | (with_reducible refine Below.drew ?_) | (with_reducible refine Below.alloc ?_ ?_ _) | (with_reducible refine Below.setCell ?_ ?_ _) | (with_reducible refine Below.trans ?_ (Below.mono (by assumption) ?_)) | (with_reducible exact Nat.le_refl _) | (with_reducible assumption) | omega | (simp; omega) | (simp; done))))).mono ?_
  rintro e w2 ⟨d, rfl, hd, hb2⟩
  have hz_hb2 := hb2.size; (try simp at hz_hb2)
  rcases hd with ⟨rfl, hno⟩ | ⟨k, hk, rfl, hkk, _⟩
  · have HR : Hid (r = false) := Lib.hid (HN.out fun j hj => by have := hno j hj; rwa [Nat.zero_add] at this)
    clear hno
    go_wp2
    go_ret
    exact ⟨ret_bool (by rw [HR.out]; try rfl), by (repeat' (first | (with_reducible assumption) | (with_reducible exact Below.refl _ _) | (with_reducible refine below_drewN ?_ _) | (with_reducible refine Below.drew ?_) | (with_reducible refine Below.alloc ?_ ?_ _) | (with_reducible refine Below.setCell ?_ ?_ _) | (with_reducible refine Below.trans ?_ (Below.mono (by assumption) ?_)) | (with_reducible exact Nat.le_refl _) | (with_reducible assumption) | omega | (simp; omega) | (simp; done)))⟩
  · have HR : Hid (r = true) := Lib.hid (HY.out k hk (by rwa [Nat.zero_add] at hkk))
    clear hkk
    go_wp2
    go_ret
    exact ⟨ret_bool (by rw [HR.out]; try simp), by (repeat' (first | (with_reducible assumption) | (with_reducible exact Below.refl _ _) | (with_reducible refine below_drewN ?_ _) | (with_reducible refine Below.drew ?_) | (with_reducible refine Below.alloc ?_ ?_ _) | (with_reducible refine Below.setCell ?_ ?_ _) | (with_reducible refine Below.trans ?_ (Below.mono (by assumption) ?_)) | (with_reducible exact Nat.le_refl _) | (with_reducible assumption) | omega | (simp; omega) | (simp; done)))⟩
end Go.Proofs.Ytkjpkdecoeoghaa
