/- slices.Repeat of one element, impl.field.zeros by contracts. -/
import Derived.Test.YthklnfanbegecacHQ
import Derived.Test.YthklnfanbegecacHW
import Derived.Laws.Bits64b
namespace Go.Proofs.Ythklnfanbegecac
open Go.RowKit
theorem mask_small (n : Nat) (h : n < 4294967296) : bits .and .u64 (n : Int) 4294967295 = (n : Int) := by
  have h1 := bits_and_u64_nat n 4294967295 (by omega) (by omega)
  have e : n &&& 4294967295 = n % 4294967296 := Nat.and_two_pow_sub_one_eq_mod n 32
  rw [e, Nat.mod_eq_of_lt h] at h1
  exact h1
theorem mul64_one (n : Nat) (hn : n ≤ 1000) (w : World) : Calls Try.prog 83 #[.int .u64 1, .int .u64 n] w fun e w' => e = .returned (.tuple #[.int .u64 0, .int .u64 n]) ∧ w' = w := by
  have hm := mask_small n (by omega)
  have h1 : bits .and .u64 1 4294967295 = 1 := mask_small 1 (by omega)
  have h2 : (n : Int) / 4294967296 = 0 := by omega
  have h3 : (n : Int) % 18446744073709551616 = n := by omega
  have h4 : bits .and .u64 0 4294967295 = 0 := mask_small 0 (by omega)
  go_enter Try.func83, Try.ntmps83
  go_wp2
  go_ret2
  exact ⟨rfl, rfl⟩
theorem mul_one (n : Nat) (hn : n ≤ 1000) (w : World) : Calls Try.prog 80 #[.int .u64 1, .int .u64 n] w fun e w' => e = .returned (.tuple #[.int .u64 0, .int .u64 n]) ∧ w' = w := by
  have HM := Lib.hid (mul64_one n hn)
  go_enter Try.func80, Try.ntmps80
  go_wp2_with fail
  refine (HM.out _).mono ?_
  rintro e w1 ⟨rfl, rfl⟩
  go_wp2
  go_ret2
  exact ⟨rfl, rfl⟩
theorem elc_add (q x : Int) (r c : Nat) : elc q (fun _ => x) r ++ elc q (fun _ => x) c = elc q (fun _ => x) (r + c) := by
  induction c with
  | zero => simp [elc]
  | succ c ih => rw [← Nat.add_assoc]; simp only [elc]; rw [← List.append_assoc, ih]
theorem elc_pre (q x : Int) (r c : Nat) (h : c ≤ r) (j : Nat) (v : Value) (hj : (elc q (fun _ => x) c)[j]? = some v) : (elc q (fun _ => x) r)[j]? = some v := by
  obtain ⟨d, rfl⟩ : ∃ d, r = c + d := ⟨r - c, by omega⟩
  rw [← elc_add, List.getElem?_append_left (List.getElem?_eq_some_iff.1 hj).1, hj]
/-- A block of N elements whose first r are x. -/
def ZR (w : World) (g N : Nat) (q x : Int) (r : Nat) : Prop := ∃ cur : List Value, w.heap[g]? = some (.cells cur.toArray 46 (0, 0)) ∧ cur.length = N * 7 ∧ cur.take (r * 7) = elc q (fun _ => x) r
theorem ZR.next {w' : World} {g N : Nat} {q x : Int} {r c : Nat} {cur : List Value} (hl : cur.length = N * 7) (ht : cur.take (r * 7) = elc q (fun _ => x) r) (hc : r + c ≤ N) (h : w'.heap[g]? = some (.cells (splice cur (r * 7) (elc q (fun _ => x) c)).toArray 46 (0, 0))) : ZR w' g N q x (r + c) := by
  refine ⟨_, h, ?_, ?_⟩
  · rw [length_splice _ _ _ (by rw [elc_len]; omega), hl]
  · unfold splice
    rw [ht, ← List.append_assoc, elc_add, List.take_append_of_le_length (by rw [elc_len]; omega), List.take_of_length_le (by rw [elc_len]; omega)]
theorem ZR.cells {w : World} {g : Nat} {q x : Int} {r c : Nat} {cur : List Value} (h : w.heap[g]? = some (.cells cur.toArray 46 (0, 0))) (ht : cur.take (r * 7) = elc q (fun _ => x) r) (hc : c ≤ r) (j : Nat) (v : Value) (hj : (elc q (fun _ => x) c)[j]? = some v) : w.cell? ((⟨g, 0, none⟩ : Addr).add j) = some v := by
  have h1 := elc_pre q x r c hc j v hj
  rw [← ht] at h1
  have hl : j < r * 7 := by have := (List.getElem?_eq_some_iff.1 h1).1; rw [List.length_take] at this; omega
  rw [List.getElem?_take, if_pos hl] at h1
  rw [add_off, Nat.zero_add, cell_of_row w g j _ _ (0, 0) h]
  simpa using h1
theorem ZR.all {w : World} {g N : Nat} {q x : Int} (h : ZR w g N q x N) : Blk w g N ∧ Els w g q (fun _ => x) N := by
  obtain ⟨cur, hh, hl, ht⟩ := h
  refine ⟨⟨_, hh, by simpa using hl⟩, fun j hj => ?_⟩
  have hc : ∀ b, b < 7 → w.cell? ⟨g, j * 7 + b, none⟩ = (el7 q x)[b]? := fun b hb => by
    rw [cell_of_row w g _ _ _ (0, 0) hh]
    rw [List.take_of_length_le (by omega)] at ht
    rw [ht, ← elc_get q (fun _ => x) N j b hj hb]
    simp
  exact ⟨hc 0 (by omega), hc 1 (by omega), hc 2 (by omega), hc 3 (by omega), hc 4 (by omega), hc 5 (by omega), hc 6 (by omega)⟩
theorem els_one {w : World} {b : Nat} {q x : Int} (h : Els w b q (fun _ => x) 1) (j : Nat) (v : Value) (hj : (elc q (fun _ => x) 1)[j]? = some v) : w.cell? ((⟨b, 0, none⟩ : Addr).add j) = some v := elc_cells h j v hj
theorem made_list {w : World} {base g N : Nat} {xs : List Value} (h : w.ownsRow base 46 7 (.slice (some ⟨g, 0, none⟩) N N) N xs) : ∃ cur : List Value, w.heap[g]? = some (.cells cur.toArray 46 (0, 0)) ∧ cur.length = N * 7 := by
  rcases h.2 with ⟨hx, _⟩ | ⟨g', cap, cur, hx, _, hh, _, _, hsz, _⟩
  · simp at hx
  · simp at hx
    obtain ⟨rfl, rfl⟩ := hx
    exact ⟨cur.toList, by simpa using hh, by simpa using hsz⟩
set_option maxRecDepth 100000 in
set_option maxHeartbeats 2000000 in
/-- slices.Repeat of one element. -/
theorem repeatE (q x : Int) (b N cp : Nat) (w : World) (hb : b < w.heap.size) (he : Els w b q (fun _ => x) 1) (hN : N ≤ 1000) :
    Calls Try.prog 74 #[.slice (some ⟨b, 0, none⟩) 1 cp, .int .i64 N] w fun e w' => ∃ g, e = .returned (.slice (some ⟨g, 0, none⟩) N N) ∧ w.heap.size ≤ g ∧ Blk w' g N ∧ Els w' g q (fun _ => x) N ∧ Below w.heap.size w w' := by
  obtain ⟨i0, hi, iz0, iz1, iz2⟩ := info_parts Try.infoE
  have HM := Lib.hid (mul_one N hN)
  have HEL := Lib.hid (fun w' (hbw : Below w.heap.size w w') => els_one (he.below hbw hb))
  have hN0 : ¬ (N : Int) < 0 := by omega
  have hw1 : IntKind.u64.wrap (N : Int) = (N : Int) := by rw [IntKind.wrap_u64]; omega
  have hw2 : ¬ (9223372036854775807 : Int) < (N : Int) := by omega
  have hsz : (Try.prog.info? 46).map (fun i => i.size) = some 7 := by rw [hi]; simp [iz1]
  clear he
  go_enter Try.func74, Try.ntmps74
  go_wp2_with fail
  refine (HM.out _).mono ?_
  rintro e w0 ⟨rfl, rfl⟩
  go_wp2_with (at_make; go_must (refine wpList_make_full _ rfl _ _ 35 rfl w0.heap.size 46 i0 (.agg #[.int .i64 0, .int .i64 0, .int .i64 0, .int .i64 0, .int .i64 0, .int .i64 0, .int .i64 0]) 7 Try.underlying35 hi iz0 iz1 .i64 .i64 _ _ N rfl rfl rfl rfl ?c3 ?c4 ?c5 ?_))
  case c3 => rw [iz2]; omega
  case c4 => unfold maxLen; omega
  case c5 => simp
  intro w1 hown hgrow
  obtain ⟨cur, hcur, hcl⟩ := made_list hown
  have HCUR := Lib.hid hcur
  have HB1 := Lib.hid ((Below.refl w0.heap.size w0).grown hgrow (Nat.le_refl _) (fun k hk => by cases hk))
  clear hown hgrow hcur
  by_cases h0 : N = 0
  · subst h0
    have hm0 : Nat.min 1 0 = 0 := rfl
    go_wp2_with (with_reducible refine wpList_copy_many (sz := 7) rfl _ _ 35 35 rfl 46 Try.underlying35 hsz _ _ _ _ _ _ rfl rfl w0.heap.size 0 cur 46 HCUR.out [] ?d1 ?d2 ?d3 ?d4 w0.heap.size w0 HB1.out (Nat.le_refl _) ?_)
    all_goals (try exact rfl)
    all_goals (try (intro u hu; cases hu; done))
    all_goals (try (simp; done))
    intro w2 HG2 hb2
    have HB2 := Lib.hid hb2; clear hb2
    have hz : ZR w2 w0.heap.size 0 q x 0 := by
      have := ZR.next (q := q) (x := x) (r := 0) (c := 0) hcl (by simp [elc]) (by omega) (by simpa [elc] using HG2.out)
      simpa using this
    obtain ⟨hk, he⟩ := hz.all
    have HK := Lib.hid hk
    have HE := Lib.hid he
    clear hk he hz HG2
    go_wp2_with fail
    (refine wp_loop_rounds 1 ?_; repeat any_goals (rw [rounds_succ]; go_wp2))
    go_wp2
    go_ret
    exact ⟨_, rfl, Nat.le_refl _, HK.out, HE.out, HB2.out⟩
  · have hm1 : Nat.min 1 N = 1 := Nat.min_eq_left (by omega)
    have HX := Lib.hid (HEL.out _ HB1.out)
    go_wp2_with (with_reducible refine wpList_copy_many (sz := 7) rfl _ _ 35 35 rfl 46 Try.underlying35 hsz _ _ _ _ _ _ rfl rfl w0.heap.size 0 cur 46 HCUR.out (elc q (fun _ => x) 1) ?e1 ?e2 ?e3 (elc_one _ _ _) w0.heap.size w0 HB1.out (Nat.le_refl _) ?_)
    case e1 => rw [elc_len, hm1]
    case e2 => intro j v hj; have := HX.out j v hj; rw [add_off, Nat.zero_add] at this; exact this
    case e3 => rw [elc_len]; omega
    intro w2 HG2 hb2
    have hzr : ZR w2 w0.heap.size N q x 1 := by
      have := ZR.next (q := q) (x := x) (r := 0) (c := 1) hcl (by simp [elc]) (by omega) (by simpa using HG2.out)
      simpa using this
    have HZR := Lib.hid hzr
    have HB2 := Lib.hid hb2
    clear hzr hb2 HG2 HX
    go_wp2_with fail
    go_loopw [8] (fun vi wr => ∃ r : Nat, 1 ≤ r ∧ r ≤ N ∧ vi = .int .i64 r ∧ ZR wr w0.heap.size N q x r ∧ Below w0.heap.size w0 wr) (fun vi _ => N - (intOf vi).toNat)
    case atStart => exact ⟨1, Nat.le_refl _, by omega, rfl, HZR.out, HB2.out⟩
    case round =>
      obtain ⟨r, hr1, hrN, rfl, hz, hb⟩ := hrel
      by_cases hlt : r < N
      · obtain ⟨cu, hcu, hcul, hct⟩ := hz
        have HCU := Lib.hid hcu; clear hcu
        have HBr := Lib.hid hb; clear hb
        have hne : ¬ r = N := by omega
        have hne2 : ¬ N = r := by omega
        have hr7 : ¬ r * 7 = 0 := by omega
        have HS := Lib.hid (fun (c : Nat) (hc : c ≤ r) (j : Nat) (v : Value) (hj : (elc q (fun _ => x) c)[j]? = some v) => ZR.cells HCU.out hct hc j v hj)
        obtain ⟨c, hc⟩ : ∃ c, c = Nat.min r (N - r) := ⟨_, rfl⟩
        have hc1 : c ≤ r := by rw [hc]; exact Nat.min_le_left _ _
        have hc2 : c ≤ N - r := by rw [hc]; exact Nat.min_le_right _ _
        have hc3 : 1 ≤ c := by rw [hc]; exact Nat.le_min.2 ⟨hr1, by omega⟩
        have HC := Lib.hid hc; clear hc
        have hrc : r + c ≤ N := by omega
        have hwr : IntKind.i64.wrap ((r : Int) + (c : Int)) = (r : Int) + (c : Int) := by rw [IntKind.wrap_i64]; omega
        go_wp2_with fail
        go_region_law? (refine step_copy_many rfl (.tmp 41) (.tmp 44) 35 35 rfl 46 7 Try.underlying35 hsz r N (N - r) (N - r) w0.heap.size (r * 7) ⟨w0.heap.size, 0, none⟩ (by simp [Act.eval, Act.put]) (by simp [Act.eval, Act.put]) cu 46 HCU.out (elc q (fun _ => x) c) (by rw [elc_len, HC.out]) (fun j v hj => HS.out c hc1 j v hj) (by rw [elc_len, hcul]; omega) (elc_one _ _ _) w0.heap.size w0 (by have hb := HBr.out; (repeat' (first | (with_reducible assumption) | (with_reducible exact Below.refl _ _) | (with_reducible refine below_drewN ?_ _) | (with_reducible refine Below.drew ?_) | (with_reducible refine Below.alloc ?_ ?_ _) | (with_reducible refine Below.setCell ?_ ?_ _) | (with_reducible refine Below.trans ?_ (Below.mono (by assumption) ?_)) | (with_reducible exact Nat.le_refl _) | (with_reducible assumption) | omega | (simp; omega) | (simp; done)))) (Nat.le_refl _) ?_; intro w3 HG3 hb3; have HB3 := Lib.hid hb3; clear hb3; rw [← HC.out])
        all_goals
          go_simp
          go_roundw
          case rel => exact ⟨.int .i64 ((r : Int) + (c : Int)), _, _, _, _, _, _, _, _, _, _, _, _, _, ⟨r + c, by omega, by omega, by simp, ZR.next hcul hct (by omega) HG3.out, HB3.out⟩, rfl⟩
          case measure => (simp [intOf]; omega)
      · obtain rfl : N = r := by omega
        obtain ⟨hk, he⟩ := hz.all
        have HK := Lib.hid hk
        have HE := Lib.hid he
        clear hk he hz
        go_wp2
        go_ret
        exact ⟨_, rfl, Nat.le_refl _, HK.out, HE.out, hb⟩
end Go.Proofs.Ythklnfanbegecac
