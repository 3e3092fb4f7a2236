/- The first clash, of both, by contracts; the walk of its law. -/
import Derived.Test.YtommagdddleoiaaLC
import Derived.Test.YtommagdddleoiaaKI
import Derived.Test.YtommagdddleoiaaLI
import Derived.BigQuiet
import Derived.Deep.RegionHeld3
namespace Go.Proofs.Ytommagdddleoiaa
open Go.RowKit
theorem eq_dgs' (q x y : Int) (h : isSz q = true) (x0 : 0 ≤ x) (x1 : x < q) (y0 : 0 ≤ y) (y1 : y < q) (w : World) :
    (Op.equalIn 9999 52 (.agg #[.int .i64 (dg q x 0), .int .i64 (dg q x 1), .int .i64 (dg q x 2), .int .i64 (dg q x 3)]) (.agg #[.int .i64 (dg q y 0), .int .i64 (dg q y 1), .int .i64 (dg q y 2), .int .i64 (dg q y 3)])).run Try.prog w = .ok (decide (x = y)) w := by
  rw [← dg_inj q x y h x0 x1 y0 y1]
  exact eq_arr 52 Try.underlying52 _ _ _ _ _ _ _ _ 9997 w
/-- The rest of a list of elements behind the place a. -/
theorem sl_from (g m a : Nat) (h : a + 1 ≤ m) : ∃ ad, (0 < m - (a + 1) → ad = some ⟨g, (a + 1) * 7, none⟩) ∧ ∀ w, (Instr.sliceAt 44 (.slice (some ⟨g, 0, none⟩) m m) (some (.int .i64 ((a : Int) + 1))) none none).run Try.prog w = .ok (.slice ad (m - (a + 1)) (m - (a + 1))) w := by
  refine ⟨if m = a + 1 then some ⟨g, 0, none⟩ else some ⟨g, (a + 1) * 7, none⟩, fun h0 => if_neg (by omega), fun w => ?_⟩
  have htn : ((a : Int) + 1).toNat = a + 1 := by omega
  have h0 : (0 : Int) ≤ (a : Int) + 1 := by omega
  have h1 : (a : Int) + 1 ≤ (m : Int) := by omega
  by_cases e : m = a + 1
  · rw [if_pos e]
    subst e
    go_simp
  · rw [if_neg e]
    have e2 : ¬ m = ((a : Int) + 1).toNat := by omega
    go_simp
theorem ret_iib {a b a' b' : Int} {c c' : Bool} (h1 : a' = a) (h2 : b' = b) (h3 : c' = c) : Ending.returned (.tuple #[.int .i64 a, .int .i64 b, .bool c]) = .returned (.tuple #[.int .i64 a', .int .i64 b', .bool c']) := by rw [h1, h2, h3]
set_option maxRecDepth 100000 in
set_option maxHeartbeats 4000000 in
/-- slices.Index of an element, in a list from its place o on. -/
theorem indexE (m g o n cap : Nat) (f : Nat → Int) (x : Int) (w : World) (h : isSz (m : Int) = true) (hx : El (m : Int) x) (hf : ∀ i, i < o + n → El (m : Int) (f i)) (hg : g < w.heap.size) (he : Els w g (m : Int) f (o + n)) (hn : o + n ≤ 1000) (a : Option Addr) (ha : 0 < n → a = some ⟨g, o * 7, none⟩) :
    Calls Try.prog 43 #[.slice a n cap, elE (m : Int) x] w fun e w' => ∃ d : Int, e = .returned (.int .i64 d) ∧ ((d = -1 ∧ ∀ j, j < n → f (o + j) ≠ x) ∨ ∃ k : Nat, k < n ∧ d = k ∧ f (o + k) = x ∧ ∀ j, j < k → f (o + j) ≠ x) ∧ Below w.heap.size w w' := by
  have HEQ := Lib.hid (fun (j : Nat) (hj : j < n) w => eq_dgs' (m : Int) x (f (o + j)) h hx.1 hx.2 (hf (o + j) (by omega)).1 (hf (o + j) (by omega)).2 w)
  have HEL : Hid (∀ (j : Nat), j < n → ∀ w', Below w.heap.size w w' → w'.cell? ⟨g, (o + j) * 7, none⟩ = some (.int .i64 m) ∧ w'.cell? ⟨g, (o + j) * 7 + 1, none⟩ = some (.int .i64 (pr m)) ∧ w'.cell? ⟨g, (o + j) * 7 + 2, none⟩ = some (.int .i64 (pl m)) ∧ w'.cell? ⟨g, (o + j) * 7 + 3, none⟩ = some (.int .i64 (dg m (f (o + j)) 0)) ∧ w'.cell? ⟨g, (o + j) * 7 + 4, none⟩ = some (.int .i64 (dg m (f (o + j)) 1)) ∧ w'.cell? ⟨g, (o + j) * 7 + 5, none⟩ = some (.int .i64 (dg m (f (o + j)) 2)) ∧ w'.cell? ⟨g, (o + j) * 7 + 6, none⟩ = some (.int .i64 (dg m (f (o + j)) 3))) := Lib.hid fun j hj w' hb => (he.below hb hg) (o + j) (by omega)
  clear he hf hx h
  by_cases h0 : n = 0
  · subst h0
    clear ha
    go_enter Try.func43, Try.ntmps43
    go_wp2_with fail
    go_loopw [8] (fun vi wr => vi = .int .i64 0 ∧ Below w.heap.size w wr) (fun _ _ => 0)
    case atStart => exact ⟨rfl, by (repeat' (first | (with_reducible assumption) | (with_reducible exact Below.refl _ _) | (with_reducible refine below_drewN ?_ _) | (with_reducible refine Below.drew ?_) | (with_reducible refine Below.alloc ?_ ?_ _) | (with_reducible refine Below.setCell ?_ ?_ _) | (with_reducible refine Below.trans ?_ (Below.mono (by assumption) ?_)) | (with_reducible exact Nat.le_refl _) | (with_reducible assumption) | omega | (simp; omega) | (simp; done)))⟩
    case round =>
      obtain ⟨rfl, hb⟩ := hrel
      go_wp2
      go_ret
      exact ⟨_, rfl, .inl ⟨rfl, fun j hj => absurd hj (Nat.not_lt_zero _)⟩, hb⟩
  · obtain rfl := ha (by omega)
    go_enter Try.func43, Try.ntmps43
    go_wp2_with fail
    have hx0 : Hid ((w.alloc (eblk (m : Int) x)).heap[w.heap.size]? = some (eblk (m : Int) x)) := Lib.hid (heap_alloc_new w _)
    go_loopw [8] (fun vi wr => ∃ k : Nat, k ≤ n ∧ vi = .int .i64 k ∧ (∀ j, j < k → f (o + j) ≠ x) ∧ Below (w.heap.size + 1) (w.alloc (eblk (m : Int) x)) wr) (fun vi _ => n - (intOf vi).toNat)
    case atStart => exact ⟨0, Nat.zero_le _, rfl, fun j hj => absurd hj (Nat.not_lt_zero _), by (repeat' (first | (with_reducible assumption) | (with_reducible exact Below.refl _ _) | (with_reducible refine below_drewN ?_ _) | (with_reducible refine Below.drew ?_) | (with_reducible refine Below.alloc ?_ ?_ _) | (with_reducible refine Below.setCell ?_ ?_ _) | (with_reducible refine Below.trans ?_ (Below.mono (by assumption) ?_)) | (with_reducible exact Nat.le_refl _) | (with_reducible assumption) | omega | (simp; omega) | (simp; done)))⟩
    case round =>
      obtain ⟨k, hk, rfl, hno, hb⟩ := hrel
      have HBW : Hid (Below w.heap.size w wr) := Lib.hid (by (repeat' (first | (with_reducible assumption) | (with_reducible exact Below.refl _ _) | (with_reducible refine below_drewN ?_ _) | (with_reducible refine Below.drew ?_) | (with_reducible refine Below.alloc ?_ ?_ _) | (with_reducible refine Below.setCell ?_ ?_ _) | (with_reducible refine Below.trans ?_ (Below.mono (by assumption) ?_)) | (with_reducible exact Nat.le_refl _) | (with_reducible assumption) | omega | (simp; omega) | (simp; done))))
      have hsz := hb.size
      simp at hsz
      obtain ⟨s0, s1, s2, s3, s4, s5, s6, sf, sl⟩ := seven ((hb.block _ (by omega)).trans hx0.out)
      have HB := Lib.hid hb; clear hb
      by_cases hlt : k < n
      · obtain ⟨c0, c1, c2, c3, c4, c5, c6⟩ := HEL.out k hlt wr HBW.out
        have HE := Lib.hid (HEQ.out k hlt)
        have HNO := Lib.hid hno; clear hno
        have hof : ((o * 7 : Nat) : Int) + (k : Int) * 7 = (((o + k) * 7 : Nat) : Int) := by omega
        have hofn : o * 7 + k * 7 = (o + k) * 7 := by omega
        have hof1 : ∀ b, o * 7 + (k * 7 + b) = (o + k) * 7 + b := fun b => by omega
        obtain ⟨y, hy⟩ : ∃ y, f (o + k) = y := ⟨_, rfl⟩
        rw [hy] at c3 c4 c5 c6 HE
        have HY := Lib.hid hy; clear hy
        cases hd : decide (x = y)
        · rw [hd] at HE
          have HN : Hid (f (o + k) ≠ x) := Lib.hid fun e => (of_decide_eq_false hd) (by rw [← HY.out]; exact e.symm)
          clear hd HY
          have heq0 := HE.out
          go_wp2_with fail
          go_quiet (fail)
          go_wp2
          go_roundw
          case rel => 
            refine ⟨k + 1, by omega, by go_num, ?_, ?_⟩
            · intro j hj
              by_cases e : j = k
              · subst e
                exact HN.out
              · exact HNO.out j (by omega)
            · have hb := HB.out
              (repeat' (first | (with_reducible assumption) | (with_reducible exact Below.refl _ _) | (with_reducible refine below_drewN ?_ _) | (with_reducible refine Below.drew ?_) | (with_reducible refine Below.alloc ?_ ?_ _) | (with_reducible refine Below.setCell ?_ ?_ _) | (with_reducible refine Below.trans ?_ (Below.mono (by assumption) ?_)) | (with_reducible exact Nat.le_refl _) | (with_reducible assumption) | omega | (simp; omega) | (simp; done)))
          case measure => simp [intOf]; omega
        · rw [hd] at HE
          have HN : Hid (f (o + k) = x) := Lib.hid (by rw [HY.out]; exact (of_decide_eq_true hd).symm)
          clear hd HY
          have heq0 := HE.out
          go_wp2_with fail
          go_quiet (fail)
          go_wp2
          go_ret
          exact ⟨_, rfl, .inr ⟨k, hlt, rfl, HN.out, HNO.out⟩, by have hb := HB.out; (repeat' (first | (with_reducible assumption) | (with_reducible exact Below.refl _ _) | (with_reducible refine below_drewN ?_ _) | (with_reducible refine Below.drew ?_) | (with_reducible refine Below.alloc ?_ ?_ _) | (with_reducible refine Below.setCell ?_ ?_ _) | (with_reducible refine Below.trans ?_ (Below.mono (by assumption) ?_)) | (with_reducible exact Nat.le_refl _) | (with_reducible assumption) | omega | (simp; omega) | (simp; done)))⟩
      · obtain rfl : n = k := by omega
        have HNO := Lib.hid hno; clear hno
        go_wp2
        go_ret
        exact ⟨_, rfl, .inl ⟨rfl, HNO.out⟩, HBW.out⟩

theorem spec_FirstClash_no (q : Int) (v : Value) (l : List Int) (w : World) (hv : Sl w v l) (hl : l.length ≤ 1048576) (hg : (isSz q && good q l) = false) :
    Calls Try.prog 17 #[.int .i64 q, v] w fun e w' => e = .returned (.tuple #[.int .i64 0, .int .i64 0, .bool false]) ∧ Below w.heap.size w w' := by
  have hp := plGood_any q v l w hv hl
  rw [hg] at hp
  have HP := Lib.hid hp
  clear hp hg hv hl
  go_enter Try.func17, Try.ntmps17
  go_wp2_with fail
  refine HP.out.mono ?_
  rintro e w1 ⟨rfl, hb1⟩
  go_wp2
  go_ret3
  exact ⟨rfl, hb1⟩
theorem impl_FirstClash_no (q : Int) (v : Value) (l : List Int) (w : World) (hv : Sl w v l) (hl : l.length ≤ 1048576) (hg : (isSz q && good q l) = false) :
    Calls Try.prog 18 #[.int .i64 q, v] w fun e w' => e = .returned (.tuple #[.int .i64 0, .int .i64 0, .bool false]) ∧ Below w.heap.size w w' := by
  have HP := Lib.hid (validPoly_no q v l w hv hl hg)
  clear hg hv hl
  go_enter Try.func18, Try.ntmps18
  go_wp2_with fail
  refine HP.out.mono ?_
  rintro e w1 ⟨rfl, hb1⟩
  have hz_hb1 := hb1.size; (try simp at hz_hb1)
  have HB1 := Lib.hid hb1; clear hb1
  go_wp2_with fail
  go_ret3
  have hb1 := HB1.out
  exact ⟨rfl, by (repeat' (first | (with_reducible assumption) | (with_reducible exact Below.refl _ _) | (with_reducible refine below_drewN ?_ _) | (with_reducible refine Below.drew ?_) | (with_reducible refine Below.alloc ?_ ?_ _) | (with_reducible refine Below.setCell ?_ ?_ _) | (with_reducible refine Below.trans ?_ (Below.mono (by assumption) ?_)) | (with_reducible exact Nat.le_refl _) | (with_reducible assumption) | omega | (simp; omega) | (simp; done)))⟩
set_option maxHeartbeats 2000000 in
theorem spec_FirstClash_yes (m : Nat) (v : Value) (l : List Int) (w : World) (h : isSz (m : Int) = true) (hv : Sl w v l) (hg : good (m : Int) l = true) (ra rb : Int) (ro : Bool) (hc : Cla (tabF (m : Int) (fun i => l.getD i 0) l.length) m ra rb ro) :
    Calls Try.prog 17 #[.int .i64 m, v] w fun e w' => e = .returned (.tuple #[.int .i64 ra, .int .i64 rb, .bool ro]) ∧ Below w.heap.size w w' := by
  have hq := isSz_le (m : Int) h
  have hlen := (good_parts hg).1
  have hp := plGood_any (m : Int) v l w hv (by omega)
  rw [h, hg] at hp
  have HP := Lib.hid hp
  have HV := Lib.hid (fun w' (hb : Below w.heap.size w w') => plValues_any (m : Int) v l w' h (hv.below hb (Nat.le_refl _)) hg)
  have HTE := Lib.hid (fun i (hi : i < m) => tab_el (k := l.length) h (all_el h (good_parts hg).2) i hi)
  simp only [Int.toNat_natCast] at HV
  have HCY := Lib.hid hc.yes
  have HCN := Lib.hid hc.no
  clear hp hg hv h HTE hc
  generalize (tabF (m : Int) (fun i => l.getD i 0) l.length) = t at *
  go_enter Try.func17, Try.ntmps17
  go_wp2_with fail
  refine HP.out.mono ?_
  rintro e w1 ⟨rfl, hb1⟩
  have hz_hb1 := hb1.size; (try simp at hz_hb1)
  have HB1 := Lib.hid hb1; clear hb1
  go_wp2_with fail
  refine (HV.out _ HB1.out).mono ?_
  rintro e w3 ⟨v3, rfl, hr3, hb3⟩
  have hz_hb3 := hb3.size; (try simp at hz_hb3)
  obtain ⟨g, cp, hv3, hgB, hgl⟩ := hr3.form (by rw [fl_len]; omega)
  rw [fl_len] at hv3
  subst hv3
  have HC : Hid (∀ i, i < m → w3.cell? ⟨g, i, none⟩ = some (.int .i64 (t i))) := Lib.hid fun i hi => by
    have := Row.cell (l := fl t m) (by rw [fl_len]; exact hr3) i (by rw [fl_len]; exact hi)
    rwa [fl_get _ _ _ hi] at this
  have HB3 : Hid (Below w.heap.size w w3) := Lib.hid (HB1.out.trans (hb3.mono hz_hb1)); clear hb3 hr3
  go_wp2_with fail
  go_loopw [19] (fun vi wr => ∃ a : Nat, a ≤ m ∧ vi = .int .i64 a ∧ (∀ i, i < a → ∀ j, i < j → j < m → t i ≠ t j) ∧ Below w3.heap.size w3 wr) (fun vi _ => m - (intOf vi).toNat)
  case atStart => exact ⟨0, Nat.zero_le _, rfl, fun i hi => absurd hi (Nat.not_lt_zero _), Below.refl _ _⟩
  case round =>
    obtain ⟨a, ha, rfl, hno, hbw⟩ := hrel
    have HNO := Lib.hid hno; clear hno
    by_cases hlt : a < m
    · have HCa : Hid (∀ wr, Below w3.heap.size w3 wr → wr.cell? ⟨g, a, none⟩ = some (.int .i64 (t a))) := Lib.hid fun wr hb => (hb.cell (p := ⟨g, a, none⟩) hgl).trans (HC.out a hlt)
      have HBW := Lib.hid hbw; clear hbw
      obtain ⟨x, hx⟩ : ∃ x, t a = x := ⟨_, rfl⟩
      rw [hx] at HCa
      have HX := Lib.hid hx; clear hx
      go_wp2_with fail
      go_loopw [9] (fun vi ws => ∃ b : Nat, b ≤ m ∧ a < b ∧ vi = .int .i64 b ∧ (∀ j, a < j → j < b → t a ≠ t j) ∧ Below w3.heap.size w3 ws) (fun vi _ => m - (intOf vi).toNat)
      case atStart => exact ⟨a + 1, by omega, by omega, by go_num, fun j h1 h2 => by omega, HBW.out⟩
      case round =>
        obtain ⟨b, hb, hab, rfl, hnb, hbs⟩ := hrel
        have HNB := Lib.hid hnb; clear hnb
        have hca := HCa.out _ hbs
        by_cases hblt : b < m
        · have hcb := (hbs.cell (p := ⟨g, b, none⟩) hgl).trans (HC.out b hblt)
          obtain ⟨y, hy⟩ : ∃ y, t b = y := ⟨_, rfl⟩
          rw [hy] at hcb
          have HBS := Lib.hid hbs; clear hbs
          by_cases hxy : x = y
          · subst hxy
            have HF := Lib.hid (HCY.out a b hab hblt HNO.out HNB.out (HX.out.trans hy.symm))
            clear hy
            go_wp2_with fail
            go_quiet (fail)
            go_wp2
            go_ret3
            obtain ⟨e1, e2, e3⟩ := HF.out
            exact ⟨ret_iib e1 e2 e3, by have hb3 := HB3.out; have hbs := HBS.out; have hz := hb3.size; (repeat' (first | (with_reducible assumption) | (with_reducible exact Below.refl _ _) | (with_reducible refine below_drewN ?_ _) | (with_reducible refine Below.drew ?_) | (with_reducible refine Below.alloc ?_ ?_ _) | (with_reducible refine Below.setCell ?_ ?_ _) | (with_reducible refine Below.trans ?_ (Below.mono (by assumption) ?_)) | (with_reducible exact Nat.le_refl _) | (with_reducible assumption) | omega | (simp; omega) | (simp; done)))⟩
          · have hxy' : (x == y) = false := by simpa using hxy
            have HF : Hid (t a ≠ t b) := Lib.hid fun e => hxy (HX.out.symm.trans (e.trans hy))
            clear hy hxy
            go_wp2_with fail
            go_quiet (fail)
            go_wp2
            go_roundw
            case rel =>
              refine ⟨b + 1, by omega, by omega, by go_num, ?_, by have hbs := HBS.out; (repeat' (first | (with_reducible assumption) | (with_reducible exact Below.refl _ _) | (with_reducible refine below_drewN ?_ _) | (with_reducible refine Below.drew ?_) | (with_reducible refine Below.alloc ?_ ?_ _) | (with_reducible refine Below.setCell ?_ ?_ _) | (with_reducible refine Below.trans ?_ (Below.mono (by assumption) ?_)) | (with_reducible exact Nat.le_refl _) | (with_reducible assumption) | omega | (simp; omega) | (simp; done)))⟩
              intro j h1 h2
              by_cases e : j = b
              · subst e
                exact HF.out
              · exact HNB.out j h1 (by omega)
            case measure => simp [intOf]; omega
        · obtain rfl : m = b := by omega
          have HBS := Lib.hid hbs; clear hbs
          clear hca
          go_wp2
          go_roundw
          case rel =>
            refine ⟨a + 1, by omega, by go_num, ?_, HBS.out⟩
            intro i hi j h1 h2
            by_cases e : i = a
            · subst e
              exact HNB.out j h1 h2
            · exact HNO.out i (by omega) j h1 h2
          case measure => simp [intOf]; omega
    · obtain rfl : m = a := by omega
      have HBW := Lib.hid hbw; clear hbw
      have HF := Lib.hid (HCN.out HNO.out)
      go_wp2
      go_ret3
      obtain ⟨e1, e2, e3⟩ := HF.out
      exact ⟨ret_iib e1 e2 e3, by have hb3 := HB3.out; have hbw := HBW.out; have hz := hb3.size; (repeat' (first | (with_reducible assumption) | (with_reducible exact Below.refl _ _) | (with_reducible refine below_drewN ?_ _) | (with_reducible refine Below.drew ?_) | (with_reducible refine Below.alloc ?_ ?_ _) | (with_reducible refine Below.setCell ?_ ?_ _) | (with_reducible refine Below.trans ?_ (Below.mono (by assumption) ?_)) | (with_reducible exact Nat.le_refl _) | (with_reducible assumption) | omega | (simp; omega) | (simp; done)))⟩
set_option maxHeartbeats 2000000 in
theorem impl_FirstClash_yes (m : Nat) (v : Value) (l : List Int) (w : World) (h : isSz (m : Int) = true) (hv : Sl w v l) (hg : good (m : Int) l = true) (ra rb : Int) (ro : Bool) (hc : Cla (tabF (m : Int) (fun i => l.getD i 0) l.length) m ra rb ro) :
    Calls Try.prog 18 #[.int .i64 m, v] w fun e w' => e = .returned (.tuple #[.int .i64 ra, .int .i64 rb, .bool ro]) ∧ Below w.heap.size w w' := by
  have hq := isSz_le (m : Int) h
  have hlen := (good_parts hg).1
  have hf := all_el h (good_parts hg).2
  have HP := Lib.hid (validPoly_yes (m : Int) v l w h hv hg)
  have HT := Lib.hid (fun (g1 : Nat) w' (hgl1 : g1 < w'.heap.size) (he1 : Els w' g1 (m : Int) (fun i => l.getD i 0) l.length) => tableM m g1 l.length l.length (fun i => l.getD i 0) w' h hgl1 he1 (fun i _ => hf i) (by omega))
  have HTE := Lib.hid (fun i (hi : i < m) => tab_el (k := l.length) h hf i hi)
  have HCY := Lib.hid hc.yes
  have HCN := Lib.hid hc.no
  have HSZ := Lib.hid h
  clear hg hv h hf hc
  generalize (tabF (m : Int) (fun i => l.getD i 0) l.length) = t at *
  generalize (fun i => l.getD i 0) = f at *
  generalize l.length = n at *
  go_enter Try.func18, Try.ntmps18
  go_wp2_with fail
  refine HP.out.mono ?_
  rintro e w1 ⟨g1, rfl, hgg1, hk1', he1, hb1⟩
  have hgl1 := hk1'.lt
  have HE1 := Lib.hid he1; clear he1 hk1'
  have hz_hb1 := hb1.size; (try simp at hz_hb1)
  have HB1 := Lib.hid hb1; clear hb1
  go_wp2_with fail
  refine (HT.out g1 _ (by simp; omega) (HE1.out.below (B := w1.heap.size) (by (repeat' (first | (with_reducible assumption) | (with_reducible exact Below.refl _ _) | (with_reducible refine below_drewN ?_ _) | (with_reducible refine Below.drew ?_) | (with_reducible refine Below.alloc ?_ ?_ _) | (with_reducible refine Below.setCell ?_ ?_ _) | (with_reducible refine Below.trans ?_ (Below.mono (by assumption) ?_)) | (with_reducible exact Nat.le_refl _) | (with_reducible assumption) | omega | (simp; omega) | (simp; done)))) hgl1)).mono ?_
  rintro e w2 ⟨g2, rfl, hgg2, hk2, he2, hb2⟩
  have hgl2 := hk2.lt
  have HE2 := Lib.hid he2; clear he2 hk2
  have hz_hb2 := hb2.size; (try simp at hz_hb2)
  have HB2 : Hid (Below w.heap.size w w2) := Lib.hid (by have hb1 := HB1.out; (repeat' (first | (with_reducible assumption) | (with_reducible exact Below.refl _ _) | (with_reducible refine below_drewN ?_ _) | (with_reducible refine Below.drew ?_) | (with_reducible refine Below.alloc ?_ ?_ _) | (with_reducible refine Below.setCell ?_ ?_ _) | (with_reducible refine Below.trans ?_ (Below.mono (by assumption) ?_)) | (with_reducible exact Nat.le_refl _) | (with_reducible assumption) | omega | (simp; omega) | (simp; done))))
  clear hb2
  go_wp2_with fail
  go_loopw [25] (fun vi wr => ∃ a : Nat, a ≤ m ∧ vi = .int .i64 a ∧ (∀ i, i < a → ∀ j, i < j → j < m → t i ≠ t j) ∧ Below w2.heap.size w2 wr) (fun vi _ => m - (intOf vi).toNat)
  case atStart => exact ⟨0, Nat.zero_le _, rfl, fun i hi => absurd hi (Nat.not_lt_zero _), Below.refl _ _⟩
  case round =>
    obtain ⟨a, ha, rfl, hno, hbw⟩ := hrel
    have HNO := Lib.hid hno; clear hno
    have hzw := hbw.size
    by_cases hlt : a < m
    · have HI : Hid (∀ (ad : Option Addr) (cap : Nat) w', Below w2.heap.size w2 w' → (0 < m - (a + 1) → ad = some ⟨g2, (a + 1) * 7, none⟩) → Calls Try.prog 43 #[.slice ad (m - (a + 1)) cap, elE (m : Int) (t a)] w' fun e w'' => ∃ d : Int, e = .returned (.int .i64 d) ∧ ((d = -1 ∧ ∀ j, j < m - (a + 1) → t (a + 1 + j) ≠ t a) ∨ ∃ k : Nat, k < m - (a + 1) ∧ d = k ∧ t (a + 1 + k) = t a ∧ ∀ j, j < k → t (a + 1 + j) ≠ t a) ∧ Below w'.heap.size w' w'') := Lib.hid fun ad cap w' hb had =>
        indexE m g2 (a + 1) (m - (a + 1)) cap t (t a) w' HSZ.out (HTE.out a hlt) (fun i hi => HTE.out i (by omega)) (by have := hb.size; omega) (by rw [show a + 1 + (m - (a + 1)) = m by omega]; exact HE2.out.below hb hgl2) (by omega) ad had
      obtain ⟨c0, c1, c2, c3, c4, c5, c6⟩ := (HE2.out.below hbw hgl2) a hlt
      have HBW := Lib.hid hbw; clear hbw
      obtain ⟨x, hx⟩ : ∃ x, t a = x := ⟨_, rfl⟩
      have HX := Lib.hid hx
      rw [hx] at HI c3 c4 c5 c6
      clear hx
      have hle : a + 1 ≤ m := hlt
      have HCY' := Lib.hid (fun b h1 h2 => HCY.out a b h1 h2 HNO.out)
      have HKEEP : Hid (∀ w', Below (wr.heap.size + 1) (wr.alloc (eblk (m : Int) x)) w' → w'.cell? ⟨wr.heap.size, 0, none⟩ = some (.int .i64 m) ∧ w'.cell? ⟨wr.heap.size, 1, none⟩ = some (.int .i64 (pr m)) ∧ w'.cell? ⟨wr.heap.size, 2, none⟩ = some (.int .i64 (pl m)) ∧ w'.cell? ⟨wr.heap.size, 3, none⟩ = some (.int .i64 (dg m x 0)) ∧ w'.cell? ⟨wr.heap.size, 4, none⟩ = some (.int .i64 (dg m x 1)) ∧ w'.cell? ⟨wr.heap.size, 5, none⟩ = some (.int .i64 (dg m x 2)) ∧ w'.cell? ⟨wr.heap.size, 6, none⟩ = some (.int .i64 (dg m x 3))) := Lib.hid fun w' hb => by
        obtain ⟨y0, y1, y2, y3, y4, y5, y6, _⟩ := seven ((hb.block _ (by omega)).trans (heap_alloc_new wr (eblk (m : Int) x)))
        exact ⟨y0, y1, y2, y3, y4, y5, y6⟩
      obtain ⟨ad, had, hsl⟩ := sl_from g2 m a hle
      have HAD := Lib.hid had; clear had
      have hwr : IntKind.i64.wrap ((a : Int) + 1) = (a : Int) + 1 := by rw [IntKind.wrap_i64]; omega
      go_wp2_with fail
      go_region_held3 (fun w' => w'.cell? ⟨wr.heap.size, 0, none⟩ = some (.int .i64 m) ∧ w'.cell? ⟨wr.heap.size, 1, none⟩ = some (.int .i64 (pr m)) ∧ w'.cell? ⟨wr.heap.size, 2, none⟩ = some (.int .i64 (pl m)) ∧ w'.cell? ⟨wr.heap.size, 3, none⟩ = some (.int .i64 (dg m x 0)) ∧ w'.cell? ⟨wr.heap.size, 4, none⟩ = some (.int .i64 (dg m x 1)) ∧ w'.cell? ⟨wr.heap.size, 5, none⟩ = some (.int .i64 (dg m x 2)) ∧ w'.cell? ⟨wr.heap.size, 6, none⟩ = some (.int .i64 (dg m x 3)))
        (exact HKEEP.out _ (by (try have hb5 := HB5.out); (repeat' (first | (with_reducible assumption) | (with_reducible exact Below.refl _ _) | (with_reducible refine below_drewN ?_ _) | (with_reducible refine Below.drew ?_) | (with_reducible refine Below.alloc ?_ ?_ _) | (with_reducible refine Below.setCell ?_ ?_ _) | (with_reducible refine Below.trans ?_ (Below.mono (by assumption) ?_)) | (with_reducible exact Nat.le_refl _) | (with_reducible assumption) | omega | (simp; omega) | (simp; done)))))
        (first
        | (go_at_call 43; refine (HI.out _ _ _ (by have hbw := HBW.out; (repeat' (first | (with_reducible assumption) | (with_reducible exact Below.refl _ _) | (with_reducible refine below_drewN ?_ _) | (with_reducible refine Below.drew ?_) | (with_reducible refine Below.alloc ?_ ?_ _) | (with_reducible refine Below.setCell ?_ ?_ _) | (with_reducible refine Below.trans ?_ (Below.mono (by assumption) ?_)) | (with_reducible exact Nat.le_refl _) | (with_reducible assumption) | omega | (simp; omega) | (simp; done)))) HAD.out).mono ?_; rintro e w5 ⟨d, rfl, hd, hb5⟩; have HDD := Lib.hid hd; clear hd; obtain ⟨hc5, hf5⟩ := bcell hb5; (try simp only [World.size_drew] at hc5 hf5); have hz5 := hb5.size; (try simp at hz5); have HB5 := Lib.hid hb5; clear hb5))
      all_goals
        have HB6 : Hid (Below w2.heap.size w2 w5) := Lib.hid (by have hb5 := HB5.out; have hbw := HBW.out; (repeat' (first | (with_reducible assumption) | (with_reducible exact Below.refl _ _) | (with_reducible refine below_drewN ?_ _) | (with_reducible refine Below.drew ?_) | (with_reducible refine Below.alloc ?_ ?_ _) | (with_reducible refine Below.setCell ?_ ?_ _) | (with_reducible refine Below.trans ?_ (Below.mono (by assumption) ?_)) | (with_reducible exact Nat.le_refl _) | (with_reducible assumption) | omega | (simp; omega) | (simp; done))))
        rcases HDD.out with ⟨hd, hn⟩ | ⟨k, hk, hd, he, hn⟩
        · subst hd
          have HN := Lib.hid hn
          clear hn HDD
          go_wp2
          go_roundw
          case rel =>
            refine ⟨a + 1, by omega, by go_num, ?_, by have hb6 := HB6.out; (repeat' (first | (with_reducible assumption) | (with_reducible exact Below.refl _ _) | (with_reducible refine below_drewN ?_ _) | (with_reducible refine Below.drew ?_) | (with_reducible refine Below.alloc ?_ ?_ _) | (with_reducible refine Below.setCell ?_ ?_ _) | (with_reducible refine Below.trans ?_ (Below.mono (by assumption) ?_)) | (with_reducible exact Nat.le_refl _) | (with_reducible assumption) | omega | (simp; omega) | (simp; done)))⟩
            intro i hi j h1 h2
            by_cases e : i = a
            · subst e
              have := HN.out (j - (i + 1)) (by omega)
              rw [show i + 1 + (j - (i + 1)) = j by omega] at this
              exact fun e => this (by rw [← e, HX.out])
            · exact HNO.out i (by omega) j h1 h2
          case measure => simp [intOf]; omega
        · subst hd
          have HF := Lib.hid (HCY'.out (a + 1 + k) (by omega) (by omega) (fun j h1 h2 => by
            have := hn (j - (a + 1)) (by omega)
            rw [show a + 1 + (j - (a + 1)) = j by omega] at this
            exact fun e => this (by rw [← e, HX.out])) (by rw [he, HX.out]))
          clear hn he HDD
          go_wp2
          go_ret3
          obtain ⟨e1, e2, e3⟩ := HF.out
          exact ⟨ret_iib e1 (e2.trans (by omega)) e3, by have hb2 := HB2.out; have hb6 := HB6.out; have hz := hb2.size; (repeat' (first | (with_reducible assumption) | (with_reducible exact Below.refl _ _) | (with_reducible refine below_drewN ?_ _) | (with_reducible refine Below.drew ?_) | (with_reducible refine Below.alloc ?_ ?_ _) | (with_reducible refine Below.setCell ?_ ?_ _) | (with_reducible refine Below.trans ?_ (Below.mono (by assumption) ?_)) | (with_reducible exact Nat.le_refl _) | (with_reducible assumption) | omega | (simp; omega) | (simp; done)))⟩
    · obtain rfl : m = a := by omega
      have HBW := Lib.hid hbw; clear hbw
      have HF := Lib.hid (HCN.out HNO.out)
      go_wp2
      go_ret3
      obtain ⟨e1, e2, e3⟩ := HF.out
      exact ⟨ret_iib e1 e2 e3, by have hb2 := HB2.out; have hbw := HBW.out; have hz := hb2.size; (repeat' (first | (with_reducible assumption) | (with_reducible exact Below.refl _ _) | (with_reducible refine below_drewN ?_ _) | (with_reducible refine Below.drew ?_) | (with_reducible refine Below.alloc ?_ ?_ _) | (with_reducible refine Below.setCell ?_ ?_ _) | (with_reducible refine Below.trans ?_ (Below.mono (by assumption) ?_)) | (with_reducible exact Nat.le_refl _) | (with_reducible assumption) | omega | (simp; omega) | (simp; done)))⟩
theorem key_FirstClash (q : Int) (l_f : List Int) (b_f : l_f.length ≤ 1048576) : ∃ (r : Int × Int) (o : Bool), (∀ (w : World) (v_f : Value) (_ : Sl w v_f l_f), Calls Try.prog 17 #[.int .i64 q, v_f] w fun e w' => e = .returned (.tuple #[.int .i64 r.1, .int .i64 r.2, .bool o]) ∧ Below w.heap.size w w') ∧
      (∀ (w : World) (v_f : Value) (_ : Sl w v_f l_f), Calls Try.prog 18 #[.int .i64 q, v_f] w fun e w' => e = .returned (.tuple #[.int .i64 r.1, .int .i64 r.2, .bool o]) ∧ Below w.heap.size w w') := by
  cases h : isSz q && good q l_f with
  | false => exact ⟨(0, 0), false, fun w v hv => spec_FirstClash_no q v l_f w hv b_f h, fun w v hv => impl_FirstClash_no q v l_f w hv b_f h⟩
  | true =>
    simp only [Bool.and_eq_true] at h
    have hq := isSz_le q h.1
    obtain ⟨m, rfl⟩ := Int.eq_ofNat_of_zero_le (show 0 ≤ q by omega)
    obtain ⟨ra, rb, ro, hc⟩ := cla_is (tabF (m : Int) (fun i => l_f.getD i 0) l_f.length) m
    exact ⟨(ra, rb), ro, fun w v hv => spec_FirstClash_yes m v l_f w h.1 hv h.2 ra rb ro hc, fun w v hv => impl_FirstClash_yes m v l_f w h.1 hv h.2 ra rb ro hc⟩
set_option maxRecDepth 100000 in
set_option maxHeartbeats 4000000 in
/-- laws.FnExactFirstClash. -/
theorem walk_FnExactFirstClash (q : Int) (a_f : Option Addr) (n_f c_f : Nat) (z_f : List Int) (w : World) (_h_q : (Lit.int .i64 q).wf = true) (h_f : IsRow .i64 w a_f n_f c_f z_f) :
    Calls Try.prog 4 #[.int .i64 q, .slice a_f n_f c_f] w fun e w' => e = .returned (.bool true) ∧ Below w.heap.size w w' := by
  clear _h_q
  obtain ⟨hs_f, hl_f, _⟩ := h_f.sl
  generalize z_f.take n_f = l_f at *
  clear h_f
  subst hl_f
  by_cases b_f : l_f.length ≤ 1048576
  rotate_left
  · have hn_f : (1048576 : Int) < (l_f.length : Int) := by omega
    go_enter Try.func4, Try.ntmps4
    go_wp2
    go_ret
    exact ⟨rfl, Below.refl _ _⟩
  have hn_f : ¬ (1048576 : Int) < (l_f.length : Int) := by omega
  obtain ⟨r, o, k1, k2⟩ := key_FirstClash q l_f b_f
  have K1 := Lib.hid k1; clear k1
  have K2 := Lib.hid k2; clear k2
  have HS_f := Lib.hid hs_f; clear hs_f
  have HB0 : Hid (Below w.heap.size w w) := Lib.hid (Below.refl _ _)
  go_enter Try.func4, Try.ntmps4
  go_wp2_with fail
  refine (toIntS_any _ l_f _ (HS_f.out.below HB0.out (Nat.le_refl _)) b_f).mono ?_
  rintro e w1 ⟨v_s_f, rfl, hrw1, hbw1⟩
  have hzw1 : w.heap.size ≤ w1.heap.size := hbw1.size
  have HBw1 : Hid (Below w.heap.size w w1) := Lib.hid (HB0.out.trans (hbw1.mono HB0.out.size))
  have hww1 := HBw1.out.size
  clear hbw1 HB0
  have R_s_f_w1 := Lib.hid hrw1; clear hrw1
  have lt_s_f : Hid (∀ g, v_s_f.ownBlock = some g → w.heap.size ≤ g ∧ g < w1.heap.size) := Lib.hid R_s_f_w1.out.lt
  go_wp2_with fail
  refine (K1.out _ v_s_f R_s_f_w1.out.sl).mono ?_
  rintro e w2 ⟨rfl, hbw2⟩
  have hzw2 : w1.heap.size ≤ w2.heap.size := hbw2.size
  have R_s_f_w2 := Lib.hid (R_s_f_w1.out.below hbw2)
  clear R_s_f_w1
  have HBw2 : Hid (Below w.heap.size w w2) := Lib.hid (HBw1.out.trans (hbw2.mono HBw1.out.size))
  have hww2 := HBw2.out.size
  clear hbw2 HBw1
  clear R_s_f_w2 lt_s_f
  go_wp2_with fail
  refine (toIntS_any _ l_f _ (HS_f.out.below HBw2.out (Nat.le_refl _)) b_f).mono ?_
  rintro e w3 ⟨v_x_f, rfl, hrw3, hbw3⟩
  have hzw3 : w2.heap.size ≤ w3.heap.size := hbw3.size
  have HBw3 : Hid (Below w.heap.size w w3) := Lib.hid (HBw2.out.trans (hbw3.mono HBw2.out.size))
  have hww3 := HBw3.out.size
  clear hbw3 HBw2
  have R_x_f_w3 := Lib.hid hrw3; clear hrw3
  have lt_x_f : Hid (∀ g, v_x_f.ownBlock = some g → w2.heap.size ≤ g ∧ g < w3.heap.size) := Lib.hid R_x_f_w3.out.lt
  go_wp2_with fail
  refine (K2.out _ v_x_f R_x_f_w3.out.sl).mono ?_
  rintro e w4 ⟨rfl, hbw4⟩
  have hzw4 : w3.heap.size ≤ w4.heap.size := hbw4.size
  have R_x_f_w4 := Lib.hid (R_x_f_w3.out.below hbw4)
  clear R_x_f_w3
  have HBw4 : Hid (Below w.heap.size w w4) := Lib.hid (HBw3.out.trans (hbw4.mono HBw3.out.size))
  have hww4 := HBw4.out.size
  clear hbw4 HBw3
  go_wp2_with fail
  refine (toIntS_any _ l_f _ (HS_f.out.below HBw4.out (Nat.le_refl _)) b_f).mono ?_
  rintro e w5 ⟨v_y_f, rfl, hrw5, hbw5⟩
  have hzw5 : w4.heap.size ≤ w5.heap.size := hbw5.size
  have R_x_f_w5 := Lib.hid (R_x_f_w4.out.below hbw5)
  clear R_x_f_w4
  have HBw5 : Hid (Below w.heap.size w w5) := Lib.hid (HBw4.out.trans (hbw5.mono HBw4.out.size))
  have hww5 := HBw5.out.size
  clear hbw5 HBw4
  have R_y_f_w5 := Lib.hid hrw5; clear hrw5
  have lt_y_f : Hid (∀ g, v_y_f.ownBlock = some g → w4.heap.size ≤ g ∧ g < w5.heap.size) := Lib.hid R_y_f_w5.out.lt
  go_wp2_with fail
  refine (eq_same v_x_f v_y_f l_f _ _ _ R_x_f_w5.out R_y_f_w5.out (by omega)).mono ?_
  rintro e w6 ⟨rfl, hbw6⟩
  have hzw6 : w5.heap.size ≤ w6.heap.size := hbw6.size
  have R_x_f_w6 := Lib.hid (R_x_f_w5.out.below hbw6)
  clear R_x_f_w5
  have R_y_f_w6 := Lib.hid (R_y_f_w5.out.below hbw6)
  clear R_y_f_w5
  have HBw6 : Hid (Below w.heap.size w w6) := Lib.hid (HBw5.out.trans (hbw6.mono HBw5.out.size))
  have hww6 := HBw6.out.size
  clear hbw6 HBw5
  clear R_y_f_w6 lt_y_f
  go_wp2
  go_ret
  exact ⟨rfl, HBw6.out⟩
end Go.Proofs.Ytommagdddleoiaa
