/- spec.l1Put by a contract. -/
import Derived.Test.YthklnfanbegecacFC
import Derived.Laws.AppendOwnNone
namespace Go.Proofs.Ythklnfanbegecac
open Go.RowKit
theorem Row.lit0 (w : World) : Row (w.alloc (.cells #[] 3)) w.heap.size (.slice (some ⟨w.heap.size, 0, none⟩) 0 0) [] := by
  have := World.ownsRow_lit (base := w.heap.size) (e := 3) (size := 1) w #[] 0 (Nat.le_refl _) (by unfold maxLen; omega) rfl
  exact this
theorem Row.cap {w : World} {B g n cap : Nat} {l : List Int} (h : Row w B (.slice (some ⟨g, 0, none⟩) n cap) l) : n ≤ cap := by
  rcases h.2 with ⟨h', _⟩ | ⟨g', cap', cur, h', _, hg, hc, _⟩
  · simp at h'
  · simp at h'
    obtain ⟨rfl, h2, rfl⟩ := h'
    omega
theorem take_get (l : List Int) (k j : Nat) (u : Value) (h : ((l.take k).map (Value.int .i64))[j]? = some u) : j < k ∧ j < l.length ∧ u = .int .i64 (l.getD j 0) := by
  rw [List.getElem?_map] at h
  obtain ⟨x, hx, rfl⟩ := Option.map_eq_some_iff.1 h
  have hj := (List.getElem?_eq_some_iff.1 hx).1
  rw [List.length_take] at hj
  refine ⟨by omega, by omega, ?_⟩
  rw [List.getElem?_take, if_pos (by omega)] at hx
  simp [List.getD, hx]
theorem drop_get (l : List Int) (k j : Nat) (u : Value) (h : ((l.drop k).map (Value.int .i64))[j]? = some u) : k + j < l.length ∧ u = .int .i64 (l.getD (k + j) 0) := by
  rw [List.getElem?_map] at h
  obtain ⟨x, hx, rfl⟩ := Option.map_eq_some_iff.1 h
  have hj := (List.getElem?_eq_some_iff.1 hx).1
  rw [List.length_drop] at hj
  refine ⟨by omega, ?_⟩
  rw [List.getElem?_drop] at hx
  simp [List.getD, hx]
theorem add_off (g o j : Nat) : (⟨g, o, none⟩ : Addr).add j = ⟨g, o + j, none⟩ := by by_cases h0 : j = 0 <;> simp [Addr.add, h0]
theorem Row.app {w : World} {B n m : Nat} {v' : Value} {l r : List Int} (hl : l.length = n) (hr : r.length = m) (h : w.ownsRow B 3 1 v' (n + m) (l.map (Value.int .i64) ++ r.map (Value.int .i64))) : Row w B v' (l ++ r) := by
  unfold Row
  rw [List.length_append, List.map_append, hl, hr]
  exact h
theorem ints_one (l : List Int) : ∀ u ∈ l.map (Value.int .i64), u.oneCell' = true := fun u hu => by
  obtain ⟨x, _, rfl⟩ := List.mem_map.1 hu
  rfl
theorem Row.of {w : World} {B n : Nat} {v : Value} {l : List Int} {xs : List Value} (h : w.ownsRow B 3 1 v n xs) (hn : n = l.length) (hx : xs = l.map (Value.int .i64)) : Row w B v l := by
  subst hn hx
  exact h
theorem take_news {w : World} {g n j : Nat} {l : List Int} (hn : l.length = n) (hc : ∀ i, i < n → w.cell? ⟨g, i, none⟩ = some (.int .i64 (l.getD i 0))) : ∀ i u, ((l.take j).map (Value.int .i64))[i]? = some u → w.cell? ((⟨g, 0, none⟩ : Addr).add i) = some u := by
  intro i u hiu
  obtain ⟨h1, h2, rfl⟩ := take_get _ _ _ _ hiu
  rw [add_off, Nat.zero_add]
  exact hc i (by omega)
theorem drop_news {w : World} {g n j : Nat} {l : List Int} (hn : l.length = n) (hc : ∀ i, i < n → w.cell? ⟨g, i, none⟩ = some (.int .i64 (l.getD i 0))) : ∀ i u, ((l.drop j).map (Value.int .i64))[i]? = some u → w.cell? ((⟨g, j, none⟩ : Addr).add i) = some u := by
  intro i u hiu
  obtain ⟨h1, rfl⟩ := drop_get _ _ _ _ hiu
  rw [add_off]
  exact hc _ (by omega)

end Go.Proofs.Ythklnfanbegecac
