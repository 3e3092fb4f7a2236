/- Good polynomials and their tables; what the general law FnTablesAndPolynomials asks, by contracts. -/
import Derived.Test.YtljijnanmpajaaaGreatZP0
import Derived.Test.YtljijnanmpajaaaGreatKR
import Derived.Test.YtljijnanmpajaaaGreatKI
import Derived.Test.YtljijnanmpajaaaGreatKM
import Derived.Test.YtljijnanmpajaaaGreatHF
import Derived.Test.YtljijnanmpajaaaGreatHL
import Derived.Test.YtljijnanmpajaaaGreatIM
namespace Go.Proofs.YtljijnanmpajaaaGreat
open Go.RowKit
theorem inE_ofY {q x : Int} (h : isSz q = true) (hx : El q x) : inE q x = true := by
  simp [inE, h, hx.1, hx.2]
/-- A good list is a reduced polynomial, with its table. -/
theorem tb_good {m : Nat} {l : List Int} (h : isSz (m : Int) = true) (hg : good (m : Int) l = true) : Tb m (fun i => l.getD i 0) l.length (tabF (m : Int) (fun i => l.getD i 0) l.length) := by
  have hq := isSz_le (m : Int) h
  obtain ⟨hlen, hall⟩ := good_parts hg
  have hel : ∀ i, El (m : Int) (l.getD i 0) := all_el h hall
  have hpast : ∀ i, l.length ≤ i → l.getD i 0 = 0 := fun i hi => by rw [List.getD_eq_getElem?_getD, List.getElem?_eq_none hi]; rfl
  have hle : l.length ≤ m := by omega
  refine ⟨hel, hle, hpast, ?_, fun a ha => ?_⟩
  · by_cases h0 : 0 < l.length
    · have h1 := good_last hlen hall h0
      rw [hg] at h1
      have h2 := of_decide_eq_true h1.symm
      obtain ⟨n, hn⟩ : ∃ n, l.length = n + 1 := ⟨l.length - 1, by omega⟩
      rw [hn] at h2 ⊢
      rw [Nat.add_sub_cancel] at h2
      show (if l.getD n 0 = 0 then _ else _) = _
      rw [if_neg (by omega)]
    · have e : l.length = 0 := by omega
      rw [e]
      rfl
  · show val m (fun i => l.getD i 0) m (a : Int) = hor (m : Int) (a : Int) (fun i => l.getD i 0) l.length l.length
    rw [hor_val h (El.nat ha) hel, val_more h hel (El.nat ha) hle hpast]
theorem ptl_tab {m : Nat} {l : List Int} (h : isSz (m : Int) = true) (hg : good (m : Int) l = true) : ptl m (tabF (m : Int) (fun i => l.getD i 0) l.length) = l := by
  rw [← (tb_good h hg).same h]
  exact (fl_of l).symm
theorem tabF_el {m : Nat} {l : List Int} (h : isSz (m : Int) = true) (hg : good (m : Int) l = true) (i : Nat) (hi : i < m) : El (m : Int) (tabF (m : Int) (fun i => l.getD i 0) l.length i) := (tb_good h hg).tel h i hi
theorem fl_good {m : Nat} {t : Nat → Int} (_h : isSz (m : Int) = true) (ht : ∀ i, i < m → El (m : Int) (t i)) : tabl (m : Int) (fl t m) = true := by
  have hall : (fl t m).all (inF (m : Int)) = true := List.all_eq_true.2 fun x hx => by
    obtain ⟨i, hi, rfl⟩ := List.mem_map.1 (show x ∈ (List.range _).map _ from hx)
    have := ht i (List.mem_range.1 hi)
    simpa [inF, El] using this
  unfold tabl
  rw [hall, fl_len]
  simp
theorem impl_PolyOf_fl {m : Nat} {t : Nat → Int} (h : isSz (m : Int) = true) (ht : ∀ i, i < m → El (m : Int) (t i)) (v : Value) (w : World) (hv : Sl w v (fl t m)) :
    Calls Tryz.prog 14 #[.int .i64 m, v] w fun e w' => ∃ v', e = .returned (.tuple #[v', .bool true]) ∧ Row w' w.heap.size v' (ptl m t) ∧ Below w.heap.size w w' := by
  have hT := fl_good h ht
  have hall : ∀ i, El (m : Int) ((fl t m).getD i 0) := all_el h (by
    have := hT
    unfold tabl at this
    rw [Bool.and_eq_true] at this
    first | exact this.1 | exact this.2)
  have P := (tb_withZ (t := fun i => (fl t m).getD i 0) h hall).like (u := t) fun a ha => fl_get _ _ _ ha
  have := impl_PolyOf_yes m v _ w h hv hT
  rw [P.same h] at this
  exact this
/-- What the law asks of a polynomial. -/
theorem ask_Tables (q : Int) (l : List Int) (hl : l.length ≤ 1048576) : ∃ (T : List Int) (d : Int) (o : Bool), T.length ≤ 1048576 ∧
    (∀ w v, Sl w v l → Calls Tryz.prog 9 #[.int .i64 q, v] w fun e w' => ∃ v', e = .returned (.tuple #[v', .bool o]) ∧ Row w' w.heap.size v' T ∧ Below w.heap.size w w') ∧
    (∀ w v, Sl w v l → Calls Tryz.prog 10 #[.int .i64 q, v] w fun e w' => ∃ v', e = .returned (.tuple #[v', .bool o]) ∧ Row w' w.heap.size v' T ∧ Below w.heap.size w w') ∧
    (∀ w v, Sl w v l → Calls Tryz.prog 11 #[.int .i64 q, v] w fun e w' => e = .returned (.tuple #[.int .i64 d, .bool o]) ∧ Below w.heap.size w w') ∧
    (∀ w v, Sl w v l → Calls Tryz.prog 12 #[.int .i64 q, v] w fun e w' => e = .returned (.tuple #[.int .i64 d, .bool o]) ∧ Below w.heap.size w w') ∧
    (o = true → ∃ m : Nat, d = (l.length : Int) - 1 ∧ T.length = m ∧ m ≤ 16 ∧ 2 ≤ m ∧ l.length ≤ 16 ∧
      (∀ w v, Sl w v T → Calls Tryz.prog 14 #[.int .i64 q, v] w fun e w' => ∃ v', e = .returned (.tuple #[v', .bool true]) ∧ Row w' w.heap.size v' l ∧ Below w.heap.size w w') ∧
      (∀ w v, Sl w v l → Calls Tryz.prog 15 #[.int .i64 q, v] w fun e w' => e = .returned (.tuple #[.bool true, .bool true]) ∧ Below w.heap.size w w') ∧
      (∀ w v, Sl w v T → Calls Tryz.prog 16 #[.int .i64 q, v] w fun e w' => e = .returned (.tuple #[.bool true, .bool true]) ∧ Below w.heap.size w w') ∧
      (∀ x w v, x < m → Sl w v l → Calls Tryz.prog 17 #[.int .i64 q, v, .int .i64 (x : Nat)] w fun e w' => e = .returned (.tuple #[.int .i64 (T.getD x 0), .bool true]) ∧ Below w.heap.size w w')) := by
  cases hd : isSz q && good q l with
  | false => exact ⟨[], 0, false, by simp, fun w v hv => (impl_TableOf_no q v l w hv hl hd).mono fun _ _ ⟨he, hb⟩ => ⟨_, he, Row.nil _ _, hb⟩, fun w v hv => (spec_TableOf_no q v l w hv hl hd).mono fun _ _ ⟨he, hb⟩ => ⟨_, he, Row.nil _ _, hb⟩, fun w v hv => impl_DegreeOf_no q v l w hv hl hd, fun w v hv => spec_DegreeOf_no q v l w hv hl hd, fun e => by cases e⟩
  | true =>
    rw [Bool.and_eq_true] at hd
    obtain ⟨h, hg⟩ := hd
    have hq := isSz_le q h
    obtain ⟨m, rfl⟩ := Int.eq_ofNat_of_zero_le (show 0 ≤ q by omega)
    have hlen := (good_parts hg).1
    have ht : ∀ i, i < m → El (m : Int) (tabF (m : Int) (fun i => l.getD i 0) l.length i) := tabF_el h hg
    refine ⟨fl (tabF (m : Int) (fun i => l.getD i 0) l.length) m, _, true, by rw [fl_len]; omega, fun w v hv => ?_, fun w v hv => ?_, fun w v hv => impl_DegreeOf_yes m v l w h hv hg, fun w v hv => spec_DegreeOf_yes m v l w h hv hg, fun _ => ⟨m, rfl, fl_len _ _, by omega, by omega, by omega, fun w v hv => ?_, fun w v hv => ?_, fun w v hv => ?_, fun x w v hx hv => ?_⟩⟩
    · have := impl_TableOf_yes (m : Int) v l w hv h hg
      rwa [Int.toNat_natCast] at this
    · have := spec_TableOf_yes (m : Int) v l w hv h hg
      rwa [Int.toNat_natCast] at this
    · have := impl_PolyOf_fl h ht v w hv
      rwa [ptl_tab h hg] at this
    · have := impl_IsPoly_any (m : Int) v l w hv hl
      rw [h, hg, decide_eq_true (show l.length ≤ 40 by omega)] at this
      exact this
    · have := impl_IsTable_any (m : Int) v _ w hv (by rw [fl_len]; omega)
      rw [h, fl_good h ht, fl_len, decide_eq_true (show m ≤ 40 by omega)] at this
      exact this
    · have := impl_ValueAt_yes (m : Int) (x : Int) v l w hv h hg (inE_ofY h (El.nat hx))
      rw [fl_get _ _ _ hx]
      exact this
/-- What the law asks of a table. -/
theorem ask_Polys (q : Int) (t : List Int) (hl : t.length ≤ 1048576) : ∃ (F : List Int) (is o o2 : Bool), F.length ≤ 1048576 ∧
    (∀ w v, Sl w v t → Calls Tryz.prog 14 #[.int .i64 q, v] w fun e w' => ∃ v', e = .returned (.tuple #[v', .bool o]) ∧ Row w' w.heap.size v' F ∧ Below w.heap.size w w') ∧
    (∀ w v, Sl w v t → Calls Tryz.prog 19 #[.int .i64 q, v] w fun e w' => ∃ v', e = .returned (.tuple #[v', .bool o]) ∧ Row w' w.heap.size v' F ∧ Below w.heap.size w w') ∧
    (∀ w v, Sl w v t → Calls Tryz.prog 16 #[.int .i64 q, v] w fun e w' => e = .returned (.tuple #[.bool is, .bool o2]) ∧ Below w.heap.size w w') ∧
    (∀ w v, Sl w v t → Calls Tryz.prog 20 #[.int .i64 q, v] w fun e w' => e = .returned (.tuple #[.bool is, .bool o2]) ∧ Below w.heap.size w w') ∧
    (o = true → is = true ∧ ∀ w v, Sl w v F → Calls Tryz.prog 9 #[.int .i64 q, v] w fun e w' => ∃ v', e = .returned (.tuple #[v', .bool true]) ∧ Row w' w.heap.size v' t ∧ Below w.heap.size w w') := by
  obtain ⟨F, o, k0, k1, k2⟩ := key_PolyOf q t hl
  have j1 := fun w v hv => impl_IsTable_any q v t w hv hl
  have j2 := fun w v hv => spec_IsTable_any q v t w hv hl
  cases hd : isSz q && tabl q t with
  | false =>
    have hF : ∀ w v, Sl w v t → Calls Tryz.prog 14 #[.int .i64 q, v] w fun e w' => ∃ v', e = .returned (.tuple #[v', .bool false]) ∧ Row w' w.heap.size v' [] ∧ Below w.heap.size w w' := fun w v hv => by
      cases hs : isSz q with
      | false => exact (impl_PolyOf_no1 q v w hs).mono fun _ _ ⟨he, hb⟩ => ⟨_, he, Row.nil _ _, hb⟩
      | true =>
        rw [hs, Bool.true_and] at hd
        exact (impl_PolyOf_no2 q v t w hs hv hl hd).mono fun _ _ ⟨he, hb⟩ => ⟨_, he, Row.nil _ _, hb⟩
    exact ⟨[], _, false, _, by simp, hF, fun w v hv => (spec_PolyOf_no q v t w hv hl hd).mono fun _ _ ⟨he, hb⟩ => ⟨_, he, Row.nil _ _, hb⟩, j1, j2, fun e => by cases e⟩
  | true =>
    rw [Bool.and_eq_true] at hd
    obtain ⟨h, hT⟩ := hd
    have hq := isSz_le q h
    obtain ⟨m, rfl⟩ := Int.eq_ofNat_of_zero_le (show 0 ≤ q by omega)
    have hT' := hT
    unfold tabl at hT'
    rw [Bool.and_eq_true] at hT'
    have hall : t.all (inF (m : Int)) = true := by first | exact hT'.1 | exact hT'.2
    have hlen : t.length = m := by
      have h3 : (decide ((t.length : Int) = m)) = true := by first | exact hT'.1 | exact hT'.2
      have := of_decide_eq_true h3
      omega
    have hel : ∀ i, El (m : Int) (t.getD i 0) := all_el h hall
    have hef : fl (fun i => t.getD i 0) m = t := by rw [← hlen]; exact (fl_of t).symm
    have htm : ∀ i, i < m → El (m : Int) (t.getD i 0) := fun i _ => hel i
    have hp := ptl_form h htm
    refine ⟨ptl m (fun i => t.getD i 0), _, true, _, by omega, fun w v hv => ?_, fun w v hv => ?_, j1, j2, fun _ => ⟨?_, fun w v hv => ?_⟩⟩
    · exact impl_PolyOf_fl h htm v w (by rw [hef]; exact hv)
    · exact spec_PolyOf_yes m v t w h hv hT
    · rw [h, hT, hlen, decide_eq_true (show m ≤ 40 by omega)]
      rfl
    · have := impl_TableOf_yes (m : Int) v _ w hv h (ptl_goodZ h htm)
      rw [Int.toNat_natCast, show fl (tabF (m : Int) (fun i => (ptl m (fun i => t.getD i 0)).getD i 0) (ptl m (fun i => t.getD i 0)).length) m = t from (fl_congr fun i hi => tabF_ptl h htm i hi).trans hef] at this
      exact this
/-- What the law asks of terms. -/
theorem ask_Terms (q : Int) (l : List Int) (_hl : l.length ≤ 1048576) : ∃ (R : List Int) (o : Bool), R.length ≤ 1048576 ∧
    (∀ w v, Sl w v l → Calls Tryz.prog 22 #[.int .i64 q, v] w fun e w' => ∃ v', e = .returned (.tuple #[v', .bool o]) ∧ Row w' w.heap.size v' R ∧ Below w.heap.size w w') ∧
    (∀ w v, Sl w v l → Calls Tryz.prog 23 #[.int .i64 q, v] w fun e w' => ∃ v', e = .returned (.tuple #[v', .bool o]) ∧ Row w' w.heap.size v' R ∧ Below w.heap.size w w') ∧
    (o = true → ∃ (m : Nat) (H M : Nat → Nat → Int), q = (m : Int) ∧ m ≤ 16 ∧ l.length ≤ 40 ∧ ∀ x, x < m → H x 0 = 0 ∧
      (∀ j, j < l.length → TT q (H x j) (x : Int) (M x j) ∧ PP q (M x j) (l.getD (l.length - 1 - j) 0) (H x (j + 1))) ∧
      (∀ w v, Sl w v R → Calls Tryz.prog 17 #[.int .i64 q, v, .int .i64 (x : Int)] w fun e w' => e = .returned (.tuple #[.int .i64 (H x l.length), .bool true]) ∧ Below w.heap.size w w')) := by
  cases h : isSz q with
  | false => exact ⟨[], false, by simp, fun w v _ => (impl_ReducePoly_no1 q v w h).mono fun _ _ ⟨he, hb⟩ => ⟨_, he, Row.nil _ _, hb⟩, fun w v _ => (spec_ReducePoly_no1 q v w h).mono fun _ _ ⟨he, hb⟩ => ⟨_, he, Row.nil _ _, hb⟩, fun e => by cases e⟩
  | true =>
    by_cases h40 : l.length ≤ 40
    · cases ha : l.all (inF q) with
      | false => exact ⟨[], false, by simp, fun w v hv => (impl_ReducePoly_no3 q v l w h hv h40 ha).mono fun _ _ ⟨he, hb⟩ => ⟨_, he, Row.nil _ _, hb⟩, fun w v hv => (spec_ReducePoly_no3 q v l w h hv h40 ha).mono fun _ _ ⟨he, hb⟩ => ⟨_, he, Row.nil _ _, hb⟩, fun e => by cases e⟩
      | true =>
        have hq := isSz_le q h
        obtain ⟨m, rfl⟩ := Int.eq_ofNat_of_zero_le (show 0 ≤ q by omega)
        have hel : ∀ i, El (m : Int) (l.getD i 0) := all_el h ha
        have P := tb_red h hel l.length
        have ht : ∀ i, i < m → El (m : Int) (val m (fun i => l.getD i 0) l.length (i : Int)) := fun i hi => P.tel h i hi
        have hp := ptl_form h ht
        have hh : ∀ (x : Nat), x < m → ∀ j, j ≤ l.length → El (m : Int) (hor (m : Int) (x : Int) (fun i => l.getD i 0) l.length j) := fun x hx j hj => hor_el h (El.nat hx) (fun i _ => hel i) j hj
        refine ⟨ptl m (fun a => val m (fun i => l.getD i 0) l.length (a : Int)), true, by omega, fun w v hv => ?_, fun w v hv => ?_, fun _ => ⟨m, fun x j => hor (m : Int) (x : Int) (fun i => l.getD i 0) l.length j, fun x j => mulF m (hor (m : Int) (x : Int) (fun i => l.getD i 0) l.length j) (x : Int), rfl, by omega, h40, fun x hx => ⟨rfl, fun j hj => ⟨?_, ?_⟩, fun w v hv => ?_⟩⟩⟩
        · have := impl_ReducePoly_yes m v l w h hv h40 ha
          rwa [P.same h] at this
        · have := spec_ReducePoly_yes m v l w h hv h40 ha
          rwa [P.same h] at this
        · exact TT.of h (hh x hx j (by omega)) (El.nat hx) rfl
        · exact PP.of h ((hh x hx j (by omega)).mul h (El.nat hx)) (hel _) rfl
        · have := impl_ValueAt_yes (m : Int) (x : Int) v _ w hv h (ptl_goodZ h ht) (inE_ofY h (El.nat hx))
          rw [ptl_horZ h ht (El.nat hx), Int.toNat_natCast, ← hor_val h (El.nat hx) hel] at this
          exact this
    · exact ⟨[], false, by simp, fun w v hv => (impl_ReducePoly_no2 q v l w h hv h40).mono fun _ _ ⟨he, hb⟩ => ⟨_, he, Row.nil _ _, hb⟩, fun w v hv => (spec_ReducePoly_no2 q v l w h hv h40).mono fun _ _ ⟨he, hb⟩ => ⟨_, he, Row.nil _ _, hb⟩, fun e => by cases e⟩
end Go.Proofs.YtljijnanmpajaaaGreat
