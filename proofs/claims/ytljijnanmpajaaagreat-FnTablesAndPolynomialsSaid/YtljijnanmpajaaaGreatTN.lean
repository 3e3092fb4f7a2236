/- impl.element.scaled for any number up to 16; spec.l1Own and plShort for any row. -/
import Derived.Test.YtljijnanmpajaaaGreatTD
import Derived.Test.YtljijnanmpajaaaGreatKE
import Derived.Test.YtljijnanmpajaaaGreatKI
import Derived.Laws.AppendOwnNone
namespace Go.Proofs.YtljijnanmpajaaaGreat
open Go.RowKit
set_option maxHeartbeats 1000000 in
/-- impl.element.scaled. -/
theorem scaled_any (q p d0 d1 d2 d3 c : Int) (k : Nat) (w : World) (k1 : 1 ≤ k) (k4 : k ≤ 4) (p2 : 2 ≤ p) (p13 : p ≤ 13) (s0 : 0 ≤ c) (s1 : c ≤ 16)
    (a0 : 0 ≤ d0) (a1 : d0 < p) (b0 : 0 ≤ d1) (b1 : d1 < p) (c0 : 0 ≤ d2) (c1 : d2 < p) (f0 : 0 ≤ d3) (f1 : d3 < p) :
    Calls Tryz.prog 205 #[elD q p k d0 d1 d2 d3, .int .i64 c] w fun e w' =>
      e = .returned (elD q p k (c * d0 % p) (if k < 2 then d1 else c * d1 % p) (if k < 3 then d2 else c * d2 % p) (if k < 4 then d3 else c * d3 % p)) ∧ Below w.heap.size w w' := by
  have hk : k = 1 ∨ k = 2 ∨ k = 3 ∨ k = 4 := by omega
  clear k1 k4
  have m0 : 0 ≤ c * d0 := Int.mul_nonneg s0 a0
  have m0' : c * d0 ≤ 16 * 13 := Int.mul_le_mul (by omega) (by omega) a0 (by omega)
  have m1 : 0 ≤ c * d1 := Int.mul_nonneg s0 b0
  have m1' : c * d1 ≤ 16 * 13 := Int.mul_le_mul (by omega) (by omega) b0 (by omega)
  have m2 : 0 ≤ c * d2 := Int.mul_nonneg s0 c0
  have m2' : c * d2 ≤ 16 * 13 := Int.mul_le_mul (by omega) (by omega) c0 (by omega)
  have m3 : 0 ≤ c * d3 := Int.mul_nonneg s0 f0
  have m3' : c * d3 ≤ 16 * 13 := Int.mul_le_mul (by omega) (by omega) f0 (by omega)
  rcases hk with rfl | rfl | rfl | rfl
  · go_enter Tryz.func205, Tryz.ntmps205
    go_wp2
    refine wp_loop_rounds 5 ?_
    iterate 1
      rw [rounds_succ]
      go_wp2
      go_region
      go_wp2
    rw [rounds_succ]
    go_wp2
    (refine bodyPost_ret (by simp [results, Tryz.results205, go_sem]; try rfl) rfl ?_)
    exact ⟨rfl, by (repeat' (first | (with_reducible assumption) | (with_reducible exact Below.refl _ _) | (with_reducible refine below_drewN ?_ _) | (with_reducible refine Below.drew ?_) | (with_reducible refine Below.alloc ?_ ?_ _) | (with_reducible refine Below.setCell ?_ ?_ _) | (with_reducible refine Below.trans ?_ (Below.mono (by assumption) ?_)) | (with_reducible exact Nat.le_refl _) | (with_reducible assumption) | omega | (simp; omega) | (simp; done)))⟩
  · go_enter Tryz.func205, Tryz.ntmps205
    go_wp2
    refine wp_loop_rounds 5 ?_
    iterate 2
      rw [rounds_succ]
      go_wp2
      go_region
      go_wp2
    rw [rounds_succ]
    go_wp2
    (refine bodyPost_ret (by simp [results, Tryz.results205, go_sem]; try rfl) rfl ?_)
    exact ⟨rfl, by (repeat' (first | (with_reducible assumption) | (with_reducible exact Below.refl _ _) | (with_reducible refine below_drewN ?_ _) | (with_reducible refine Below.drew ?_) | (with_reducible refine Below.alloc ?_ ?_ _) | (with_reducible refine Below.setCell ?_ ?_ _) | (with_reducible refine Below.trans ?_ (Below.mono (by assumption) ?_)) | (with_reducible exact Nat.le_refl _) | (with_reducible assumption) | omega | (simp; omega) | (simp; done)))⟩
  · go_enter Tryz.func205, Tryz.ntmps205
    go_wp2
    refine wp_loop_rounds 5 ?_
    iterate 3
      rw [rounds_succ]
      go_wp2
      go_region
      go_wp2
    rw [rounds_succ]
    go_wp2
    (refine bodyPost_ret (by simp [results, Tryz.results205, go_sem]; try rfl) rfl ?_)
    exact ⟨rfl, by (repeat' (first | (with_reducible assumption) | (with_reducible exact Below.refl _ _) | (with_reducible refine below_drewN ?_ _) | (with_reducible refine Below.drew ?_) | (with_reducible refine Below.alloc ?_ ?_ _) | (with_reducible refine Below.setCell ?_ ?_ _) | (with_reducible refine Below.trans ?_ (Below.mono (by assumption) ?_)) | (with_reducible exact Nat.le_refl _) | (with_reducible assumption) | omega | (simp; omega) | (simp; done)))⟩
  · go_enter Tryz.func205, Tryz.ntmps205
    go_wp2
    refine wp_loop_rounds 5 ?_
    iterate 4
      rw [rounds_succ]
      go_wp2
      go_region
      go_wp2
    rw [rounds_succ]
    go_wp2
    (refine bodyPost_ret (by simp [results, Tryz.results205, go_sem]; try rfl) rfl ?_)
    exact ⟨rfl, by (repeat' (first | (with_reducible assumption) | (with_reducible exact Below.refl _ _) | (with_reducible refine below_drewN ?_ _) | (with_reducible refine Below.drew ?_) | (with_reducible refine Below.alloc ?_ ?_ _) | (with_reducible refine Below.setCell ?_ ?_ _) | (with_reducible refine Below.trans ?_ (Below.mono (by assumption) ?_)) | (with_reducible exact Nat.le_refl _) | (with_reducible assumption) | omega | (simp; omega) | (simp; done)))⟩
theorem tim_elE {q a : Int} (h : isSz q = true) (ha : El q a) (d : Nat) (hd : d ≤ 16) : elE q (tim q a d) = elD q (pr q) (plN q : Nat) ((d : Int) * dg q a 0 % pr q) (if plN q < 2 then dg q a 1 else (d : Int) * dg q a 1 % pr q) (if plN q < 3 then dg q a 2 else (d : Int) * dg q a 2 % pr q) (if plN q < 4 then dg q a 3 else (d : Int) * dg q a 3 % pr q) := by
  have hk : ∀ d ∈ List.range 17, chk1 (fun q a => decide (dg q (tim q a d) 0 = (d : Int) * dg q a 0 % pr q ∧ dg q (tim q a d) 1 = (if plN q < 2 then dg q a 1 else (d : Int) * dg q a 1 % pr q) ∧ dg q (tim q a d) 2 = (if plN q < 3 then dg q a 2 else (d : Int) * dg q a 2 % pr q) ∧ dg q (tim q a d) 3 = (if plN q < 4 then dg q a 3 else (d : Int) * dg q a 3 % pr q))) = true := by decide +kernel
  obtain ⟨h0, h1, h2, h3⟩ := of_decide_eq_true (of_chk1 (hk d (List.mem_range.2 (by omega))) q a h ha.1 ha.2)
  rw [← h0, ← h1, ← h2, ← h3]
  rfl
/-- An element, d times. -/
theorem timE (q a : Int) (d : Nat) (w : World) (h : isSz q = true) (ha : El q a) (hd : d ≤ 16) :
    Calls Tryz.prog 205 #[elE q a, .int .i64 d] w fun e w' => e = .returned (elE q (tim q a d)) ∧ Below w.heap.size w w' := by
  rw [tim_elE h ha d hd]
  have hp := pr_bd q h
  have hk := plN_bd q h
  have b := fun i => dg_bd q a i h
  exact scaled_any q (pr q) (dg q a 0) (dg q a 1) (dg q a 2) (dg q a 3) (d : Int) (plN q) w hk.1 hk.2 hp.1 hp.2 (by omega) (by omega) (b 0).1 (b 0).2 (b 1).1 (b 1).2 (b 2).1 (b 2).2 (b 3).1 (b 3).2
theorem Row.how {w : World} {B : Nat} {v : Value} {l : List Int} (h : Row w B v l) : (v = .slice none 0 0 ∧ l.length = 0) ∨ ∃ g cap, v = .slice (some ⟨g, 0, none⟩) l.length cap ∧ g < w.heap.size := by
  rcases h.2 with ⟨hx, hn⟩ | ⟨g, cap, cur, hx, _, hh, _⟩
  · exact .inl ⟨hx, hn⟩
  · exact .inr ⟨g, cap, hx, (Array.getElem?_eq_some_iff.1 hh).1⟩
/-- spec.l1Own of nothing. -/
theorem l1Own_none (a : Option Addr) (cap : Nat) (w : World) :
    Calls Tryz.prog 187 #[.slice a 0 cap] w fun e w' => ∃ v, e = .returned v ∧ Row w' w.heap.size v [] ∧ Below w.heap.size w w' := by
  obtain ⟨i0, hi, iz0, iz1, iz2⟩ := info_parts Tryz.infoI
  clear iz0 iz2
  have H0 : Hid ((w.alloc (.cells #[] 3)).ownsRow w.heap.size 3 1 (.slice (some ⟨w.heap.size, 0, none⟩) 0 0) 0 []) := Lib.hid (Row.lit0 w)
  have HB0 : Hid (Below w.heap.size w (w.alloc (.cells #[] 3))) := Lib.hid (by (repeat' (first | (with_reducible assumption) | (with_reducible exact Below.refl _ _) | (with_reducible refine below_drewN ?_ _) | (with_reducible refine Below.drew ?_) | (with_reducible refine Below.alloc ?_ ?_ _) | (with_reducible refine Below.setCell ?_ ?_ _) | (with_reducible refine Below.trans ?_ (Below.mono (by assumption) ?_)) | (with_reducible exact Nat.le_refl _) | (with_reducible assumption) | omega | (simp; omega) | (simp; done))))
  cases a with
  | none =>
    go_enter Tryz.func187, Tryz.ntmps187
    go_wp2_with (at_builtin; refine wpList_append_own_none rfl _ _ 24 rfl w.heap.size 3 i0 1 Tryz.underlying24 hi _ _ _ rfl H0.out rfl ?_)
    go_ret
    exact ⟨_, rfl, H0.out, HB0.out⟩
  | some ad =>
    go_enter Tryz.func187, Tryz.ntmps187
    go_wp2_with (at_builtin; refine wpList_append_own_none rfl _ _ 24 rfl w.heap.size 3 i0 1 Tryz.underlying24 hi _ _ _ rfl H0.out rfl ?_)
    go_ret
    exact ⟨_, rfl, H0.out, HB0.out⟩
theorem l1Own_sl (v : Value) (l : List Int) (w : World) (hv : Sl w v l) (hl : l.length ≤ 1000) :
    Calls Tryz.prog 187 #[v] w fun e w' => ∃ v, e = .returned v ∧ Row w' w.heap.size v l ∧ Below w.heap.size w w' := by
  by_cases h0 : 0 < l.length
  · obtain ⟨b, off, cap, rfl, hb, hc⟩ := hv.open rfl h0
    exact l1Own_any b off cap l w hb hc hl
  · have e : l = [] := List.eq_nil_of_length_eq_zero (by omega)
    subst e
    obtain ⟨a, cap, rfl⟩ := hv.empty
    exact l1Own_none a cap w
/-- spec.plShort of nil. -/
theorem plShort_nil (w : World) :
    Calls Tryz.prog 127 #[.slice none 0 0] w fun e w' => ∃ v, e = .returned v ∧ Row w' w.heap.size v [] ∧ Below w.heap.size w w' := by
  have HO := Lib.hid (fun w => l1Own_none none 0 w)
  go_enter Tryz.func127, Tryz.ntmps127
  go_wp2_with fail
  go_loop [3] (fun vk => vk = .int .i64 0) (fun vk => (intOf vk).toNat)
  case atStart => rfl
  case round =>
    subst hrel
    go_wp2_with fail
    refine (HO.out _).mono ?_
    rintro e w1 ⟨v, rfl, hr, hb⟩
    have HR := Lib.hid hr; clear hr
    have HB := Lib.hid hb; clear hb
    go_wp2
    go_ret
    exact ⟨_, rfl, HR.out, HB.out⟩
theorem plShort_row (v : Value) (n B : Nat) (f : Nat → Int) (w : World) (h : Row w B v (fl f n)) (hn : n ≤ 1000) :
    Calls Tryz.prog 127 #[v] w fun e w' => ∃ v, e = .returned v ∧ Row w' w.heap.size v (fl f (sn f n)) ∧ Below w.heap.size w w' := by
  rcases h.how with ⟨rfl, h0⟩ | ⟨g, cap, rfl, hg⟩
  · rw [fl_len] at h0
    subst h0
    exact plShort_nil w
  · rw [fl_len] at h ⊢
    exact plShort_any g cap n B f w h hg hn
end Go.Proofs.YtljijnanmpajaaaGreat
