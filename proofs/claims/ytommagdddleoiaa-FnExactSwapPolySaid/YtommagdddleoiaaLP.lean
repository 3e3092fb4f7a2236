/- SwapPoly, of both, by contracts; the walk of its law. -/
import Derived.Test.YtommagdddleoiaaLN
import Derived.Test.YtommagdddleoiaaKL
namespace Go.Proofs.Ytommagdddleoiaa
open Go.RowKit
/-- Two elements exchanged. -/
def swT (a b : Nat) : Nat → Int := upd (upd (fun i => (i : Int)) a b) b a
theorem swT_el {m a b : Nat} (ha : a < m) (hb : b < m) : ∀ i, i < m → El (m : Int) (swT a b i) := by
  intro i hi
  unfold swT
  by_cases e : i = b
  · subst e; rw [upd_at]; exact El.nat ha
  · rw [upd_ne _ _ _ _ e]
    by_cases e : i = a
    · subst e; rw [upd_at]; exact El.nat hb
    · rw [upd_ne _ _ _ _ e]; exact El.nat hi
theorem sw_same (a : Nat) : swT a a = fun i : Nat => (i : Int) := by
  funext i
  unfold swT
  by_cases e : i = a
  · subst e; rw [upd_at]
  · rw [upd_ne _ _ _ _ e, upd_ne _ _ _ _ e]
theorem sw_nil (m a : Nat) : ftl m (cyT [] 0) = ftl m (swT a a) := ftl_congr fun i _ => by rw [sw_same]; rfl
theorem sw_two (m a b : Nat) : ftl m (cyT [(a : Int), (b : Int)] 2) = ftl m (swT a b) := ftl_congr fun i _ => by simp [cyT, swT]
theorem Row.lit2 (w : World) (a b : Int) : Row (w.alloc (.cells #[.int .i64 a, .int .i64 b] 3)) w.heap.size (.slice (some ⟨w.heap.size, 0, none⟩) 2 2) [a, b] := by
  have := World.ownsRow_lit (base := w.heap.size) (e := 3) (size := 1) w #[.int .i64 a, .int .i64 b] 2 (Nat.le_refl _) (by unfold maxLen; omega) rfl
  exact this
set_option maxHeartbeats 1000000 in
theorem spec_SwapPoly_yes (m a b : Nat) (w : World) (h : isSz (m : Int) = true) (ha : a < m) (hb : b < m) :
    Calls Try.prog 33 #[.int .i64 m, .int .i64 a, .int .i64 b] w fun e w' => ∃ v, e = .returned (.tuple #[v, .bool true]) ∧ Row w' w.heap.size v (ftl m (swT a b)) ∧ Below w.heap.size w w' := by
  have hq := isSz_le (m : Int) h
  have HIA : Hid (inE (m : Int) (a : Int) = true) := Lib.hid (by simp [inE, h]; omega)
  have HIB : Hid (inE (m : Int) (b : Int) = true) := Lib.hid (by simp [inE, h]; omega)
  by_cases hab : a = b
  · subst hab
    have HP := Lib.hid (fun w => peOf_any m (.slice none 0 0) [] w h (Sl.nil w) (fun i hi => absurd hi (Nat.not_lt_zero _)) (Nat.zero_le _))
    rw [show ([] : List Int).length = 0 from rfl, sw_nil m a] at HP
    clear h ha hb
    generalize ftl m (swT a a) = r at *
    go_enter Try.func33, Try.ntmps33
    go_wp2_with fail
    refine (fdIn_any _ _ _).mono ?_
    rintro e w1 ⟨rfl, hb1⟩
    rw [HIA.out]
    have hz_hb1 := hb1.size; (try simp at hz_hb1)
    have HB1 := Lib.hid hb1; clear hb1
    go_wp2_with fail
    refine (fdIn_any _ _ _).mono ?_
    rintro e w2 ⟨rfl, hb2⟩
    rw [HIA.out]
    have hz_hb2 := hb2.size; (try simp at hz_hb2)
    have HB2 : Hid (Below w.heap.size w w2) := Lib.hid (HB1.out.trans (hb2.mono hz_hb1)); clear hb2
    go_wp2_with fail
    refine (HP.out _).mono ?_
    rintro e w3 ⟨v3, rfl, hr3, hb3⟩
    have HR3 := Lib.hid hr3; clear hr3
    have HB3 := Lib.hid hb3; clear hb3
    go_wp2
    go_ret2
    exact ⟨_, rfl, HR3.out.mono HB2.out.size, HB2.out.trans (HB3.out.mono HB2.out.size)⟩
  · have hne : ((a : Int) == (b : Int)) = false := by simp; omega
    have HP := Lib.hid (fun v w (hv : Sl w v [(a : Int), (b : Int)]) => peOf_any m v [(a : Int), (b : Int)] w h hv (fun i hi => by
      have hi' : i < 2 := hi
      have : i = 0 ∨ i = 1 := by omega
      rcases this with rfl | rfl
      · exact El.nat ha
      · exact El.nat hb) (by show 2 ≤ m; omega))
    rw [show ([(a : Int), (b : Int)] : List Int).length = 2 from rfl, sw_two m a b] at HP
    have HL := Lib.hid (fun w => Row.lit2 w (a : Int) (b : Int))
    clear h ha hb
    generalize ftl m (swT a b) = r at *
    go_enter Try.func33, Try.ntmps33
    go_wp2_with fail
    refine (fdIn_any _ _ _).mono ?_
    rintro e w1 ⟨rfl, hb1⟩
    rw [HIA.out]
    have hz_hb1 := hb1.size; (try simp at hz_hb1)
    have HB1 := Lib.hid hb1; clear hb1
    go_wp2_with fail
    refine (fdIn_any _ _ _).mono ?_
    rintro e w2 ⟨rfl, hb2⟩
    rw [HIB.out]
    have hz_hb2 := hb2.size; (try simp at hz_hb2)
    have HB2 : Hid (Below w.heap.size w w2) := Lib.hid (HB1.out.trans (hb2.mono hz_hb1)); clear hb2
    go_wp2_with fail
    refine (HP.out _ _ (HL.out _).sl).mono ?_
    rintro e w3 ⟨v3, rfl, hr3, hb3⟩
    have hz_hb3 := hb3.size; (try simp at hz_hb3)
    have HR3 := Lib.hid hr3; clear hr3
    have HB3 := Lib.hid hb3; clear hb3
    have hz2 := HB2.out.size
    go_wp2
    go_ret2
    exact ⟨_, rfl, HR3.out.mono (by simp; omega), by have hb3 := HB3.out; have hb2 := HB2.out; (repeat' (first | (with_reducible assumption) | (with_reducible exact Below.refl _ _) | (with_reducible refine below_drewN ?_ _) | (with_reducible refine Below.drew ?_) | (with_reducible refine Below.alloc ?_ ?_ _) | (with_reducible refine Below.setCell ?_ ?_ _) | (with_reducible refine Below.trans ?_ (Below.mono (by assumption) ?_)) | (with_reducible exact Nat.le_refl _) | (with_reducible assumption) | omega | (simp; omega) | (simp; done)))⟩
theorem spec_SwapPoly_no (q a b : Int) (w : World) (h : (inE q a && inE q b) = false) :
    Calls Try.prog 33 #[.int .i64 q, .int .i64 a, .int .i64 b] w fun e w' => e = .returned (.tuple #[.slice none 0 0, .bool false]) ∧ Below w.heap.size w w' := by
  cases ha : inE q a with
  | false =>
    clear h
    go_enter Try.func33, Try.ntmps33
    go_wp2_with fail
    refine (fdIn_any _ _ _).mono ?_
    rintro e w1 ⟨rfl, hb1⟩
    rw [ha]
    have hz_hb1 := hb1.size; (try simp at hz_hb1)
    go_wp2_with fail
    go_ret2
    exact ⟨rfl, by (repeat' (first | (with_reducible assumption) | (with_reducible exact Below.refl _ _) | (with_reducible refine below_drewN ?_ _) | (with_reducible refine Below.drew ?_) | (with_reducible refine Below.alloc ?_ ?_ _) | (with_reducible refine Below.setCell ?_ ?_ _) | (with_reducible refine Below.trans ?_ (Below.mono (by assumption) ?_)) | (with_reducible exact Nat.le_refl _) | (with_reducible assumption) | omega | (simp; omega) | (simp; done)))⟩
  | true =>
    rw [ha] at h
    have HB : Hid (inE q b = false) := Lib.hid h
    clear h
    go_enter Try.func33, Try.ntmps33
    go_wp2_with fail
    refine (fdIn_any _ _ _).mono ?_
    rintro e w1 ⟨rfl, hb1⟩
    rw [ha]
    have hz_hb1 := hb1.size; (try simp at hz_hb1)
    go_wp2_with fail
    refine (fdIn_any _ _ _).mono ?_
    rintro e w2 ⟨rfl, hb2⟩
    rw [HB.out]
    have hz_hb2 := hb2.size; (try simp at hz_hb2)
    go_wp2_with fail
    go_ret2
    exact ⟨rfl, by (repeat' (first | (with_reducible assumption) | (with_reducible exact Below.refl _ _) | (with_reducible refine below_drewN ?_ _) | (with_reducible refine Below.drew ?_) | (with_reducible refine Below.alloc ?_ ?_ _) | (with_reducible refine Below.setCell ?_ ?_ _) | (with_reducible refine Below.trans ?_ (Below.mono (by assumption) ?_)) | (with_reducible exact Nat.le_refl _) | (with_reducible assumption) | omega | (simp; omega) | (simp; done)))⟩
theorem pairOf_no (q a b : Int) (w : World) (h : (inE q a && inE q b) = false) :
    Calls Try.prog 68 #[.int .i64 q, .int .i64 a, .int .i64 b] w fun e w' => e = .returned (.tuple #[elZ, elZ, .bool false]) ∧ Below w.heap.size w w' := by
  cases ha : inE q a with
  | false =>
    cases hb : inE q b with
    | false => exact pairOf_no1 q a b w ha hb
    | true => exact pairOf_no2 q a b w ha hb
  | true =>
    rw [ha] at h
    exact pairOf_no3 q a b w ha h
theorem impl_SwapPoly_no (q a b : Int) (w : World) (h : (inE q a && inE q b) = false) :
    Calls Try.prog 34 #[.int .i64 q, .int .i64 a, .int .i64 b] w fun e w' => e = .returned (.tuple #[.slice none 0 0, .bool false]) ∧ Below w.heap.size w w' := by
  have HP := Lib.hid (fun w => pairOf_no q a b w h)
  clear h
  go_enter Try.func34, Try.ntmps34
  go_wp2_with fail
  refine (HP.out _).mono ?_
  rintro e w1 ⟨rfl, hb1⟩
  have hz_hb1 := hb1.size; (try simp at hz_hb1)
  have HB1 := Lib.hid hb1; clear hb1
  go_wp2_with fail
  go_ret2
  have hb1 := HB1.out
  exact ⟨rfl, by (repeat' (first | (with_reducible assumption) | (with_reducible exact Below.refl _ _) | (with_reducible refine below_drewN ?_ _) | (with_reducible refine Below.drew ?_) | (with_reducible refine Below.alloc ?_ ?_ _) | (with_reducible refine Below.setCell ?_ ?_ _) | (with_reducible refine Below.trans ?_ (Below.mono (by assumption) ?_)) | (with_reducible exact Nat.le_refl _) | (with_reducible assumption) | omega | (simp; omega) | (simp; done)))⟩
set_option maxHeartbeats 4000000 in
set_option maxRecDepth 100000 in
theorem impl_SwapPoly_yes (m a b : Nat) (w : World) (h : isSz (m : Int) = true) (ha : a < m) (hb : b < m) :
    Calls Try.prog 34 #[.int .i64 m, .int .i64 a, .int .i64 b] w fun e w' => ∃ v, e = .returned (.tuple #[v, .bool true]) ∧ Row w' w.heap.size v (ftl m (swT a b)) ∧ Below w.heap.size w w' := by
  have hq := isSz_le (m : Int) h
  have HP := Lib.hid (fun w => pairOf_yes (m : Int) (a : Int) (b : Int) w (by simp [inE, h]; omega) (by simp [inE, h]; omega))
  have HE := Lib.hid (fun w => elements_any (m : Int) w h)
  rw [Int.toNat_natCast] at HE
  have HWT := Lib.hid (fun v w' (hs : Se w' v (m : Int) (swT a b) m) => withTableT m v (swT a b) w' h hs (swT_el ha hb))
  have HN := Lib.hid (fun v f k w' (hs : Se w' v (m : Int) f k) (hf : ∀ i, El (m : Int) (f i)) (hk : k ≤ m) => numbersE (m : Int) v f k w' h hs (fun i _ => hf i) (by omega))
  have HU : Hid (swT a b = upd (upd (fun i => (i : Int)) a b) b a) := Lib.hid rfl
  clear h
  generalize ftl m (swT a b) = r at *
  generalize swT a b = T at *
  go_enter Try.func34, Try.ntmps34
  go_wp2_with fail
  refine (HP.out _).mono ?_
  rintro e w1 ⟨rfl, hb1⟩
  have hz_hb1 := hb1.size; (try simp at hz_hb1)
  have HB1 := Lib.hid hb1; clear hb1
  have HT2 := Lib.hid (two w1 (eblk (m : Int) (a : Int)) (eblk (m : Int) (b : Int)))
  go_wp2_with fail
  refine (HE.out _).mono ?_
  rintro e w2 ⟨g, cp, rfl, hg, hk, he, hb2⟩
  simp at hg
  have hgl := hk.lt
  obtain ⟨a0, a1, a2, a3, a4, a5, a6, af, al⟩ := seven ((hb2.block _ (by simp; try omega)).trans HT2.out.1)
  obtain ⟨b0, b1, b2, b3, b4, b5, b6, bf, bl⟩ := seven ((hb2.block _ (by simp; try omega)).trans HT2.out.2)
  obtain ⟨x0, c0⟩ := hk.at (a * 7) (by omega)
  obtain ⟨x1, c1⟩ := hk.at (a * 7 + 1) (by omega)
  obtain ⟨x2, c2⟩ := hk.at (a * 7 + 2) (by omega)
  obtain ⟨x3, c3⟩ := hk.at (a * 7 + 3) (by omega)
  obtain ⟨x4, c4⟩ := hk.at (a * 7 + 4) (by omega)
  obtain ⟨x5, c5⟩ := hk.at (a * 7 + 5) (by omega)
  obtain ⟨x6, c6⟩ := hk.at (a * 7 + 6) (by omega)
  obtain ⟨y0, d0⟩ := hk.at (b * 7) (by omega)
  obtain ⟨y1, d1⟩ := hk.at (b * 7 + 1) (by omega)
  obtain ⟨y2, d2⟩ := hk.at (b * 7 + 2) (by omega)
  obtain ⟨y3, d3⟩ := hk.at (b * 7 + 3) (by omega)
  obtain ⟨y4, d4⟩ := hk.at (b * 7 + 4) (by omega)
  obtain ⟨y5, d5⟩ := hk.at (b * 7 + 5) (by omega)
  obtain ⟨y6, d6⟩ := hk.at (b * 7 + 6) (by omega)
  have HA0 := Lib.hid ((hb2.block w1.heap.size (by simp; try omega)).trans HT2.out.1)
  have fr := hk.free
  have HK := Lib.hid hk
  have HEE := Lib.hid he
  have HB2 : Hid (Below w.heap.size w w2) := Lib.hid (by have hb1 := HB1.out; (repeat' (first | (with_reducible assumption) | (with_reducible exact Below.refl _ _) | (with_reducible refine below_drewN ?_ _) | (with_reducible refine Below.drew ?_) | (with_reducible refine Below.alloc ?_ ?_ _) | (with_reducible refine Below.setCell ?_ ?_ _) | (with_reducible refine Below.trans ?_ (Below.mono (by assumption) ?_)) | (with_reducible exact Nat.le_refl _) | (with_reducible assumption) | omega | (simp; omega) | (simp; done))))
  clear hk he hb2
  have HPUT : Hid (∀ W : World, Els W g (m : Int) (fun j => (j : Int)) m → Blk W g m → Els (put7i (put7i W g a m b) g b m a) g (m : Int) T m) := Lib.hid fun W h1 h2 => by
    obtain ⟨e1, k1⟩ := Els.put (b : Int) h2 ha (Nat.le_refl _) h1
    obtain ⟨e2, _⟩ := Els.put (a : Int) k1 hb (Nat.le_refl _) e1
    rw [HU.out]
    exact e2
  have hga : w1.heap.size ≠ g := by omega
  have hgb : w1.heap.size + 1 ≠ g := by omega
  by_cases hab : a = b
  · subst hab
    go_wp2_with fail
    go_region
    all_goals
      clear a0 a1 a2 a3 a4 a5 a6 af al b0 b1 b2 b3 b4 b5 b6 bf bl c0 c1 c2 c3 c4 c5 c6 d0 d1 d2 d3 d4 d5 d6 fr
      obtain ⟨W, hW⟩ : ∃ W, W = (put7i (put7i w2 g a m a) g a m a).drew := ⟨_, rfl⟩
      have hz : W.heap.size = w2.heap.size := by rw [hW]; simp
      have hoth : ∀ k, k ≠ g → W.heap[k]? = w2.heap[k]? := fun k hk => by
        rw [hW, drew_heap, put7i_other _ _ _ _ _ _ hk, put7i_other _ _ _ _ _ _ hk]
      have HEW : Hid (Els W g (m : Int) T m) := Lib.hid (by rw [hW]; exact (HPUT.out w2 HEE.out HK.out).same (drew_heap _ _))
      have HBW : Hid (Below w.heap.size w W) := Lib.hid (by
        rw [hW]
        have hb2 := HB2.out
        exact (put7i_below (put7i_below hb2 g (by omega) a m a) g (by omega) a m a).drew)
      rw [← hW]
      obtain ⟨a0, a1, a2, a3, a4, a5, a6, af, al⟩ := seven ((hoth _ hga).trans HA0.out)
      clear hW hoth
      have hgW : g < W.heap.size := by omega
      go_wp2_with fail
      refine (HWT.out _ _ ⟨g, cp, rfl, hgW, HEW.out⟩).mono ?_
      rintro e w6 ⟨g6, k6, c6', f6, rfl, hg6, he6, hf6, hk6, hfl6, hb6⟩
      have hz_hb6 := hb6.size; (try simp at hz_hb6)
      have HE6 := Lib.hid he6; clear he6
      have HF6 := Lib.hid hf6; clear hf6
      have HB6 : Hid (Below w.heap.size w w6) := Lib.hid (by have hbw := HBW.out; (repeat' (first | (with_reducible assumption) | (with_reducible exact Below.refl _ _) | (with_reducible refine below_drewN ?_ _) | (with_reducible refine Below.drew ?_) | (with_reducible refine Below.alloc ?_ ?_ _) | (with_reducible refine Below.setCell ?_ ?_ _) | (with_reducible refine Below.trans ?_ (Below.mono (by assumption) ?_)) | (with_reducible exact Nat.le_refl _) | (with_reducible assumption) | omega | (simp; omega) | (simp; done))))
      clear hb6
      go_wp2_with fail
      refine (HN.out _ _ _ _ ⟨g6, _, rfl, hg6, HE6.out⟩ HF6.out hk6).mono ?_
      rintro e w7 ⟨v7, rfl, hr7, hb7⟩
      have HR7 := Lib.hid hr7; clear hr7
      have HB7 := Lib.hid hb7; clear hb7
      go_wp2
      go_ret2
      exact ⟨_, rfl, by rw [← hfl6]; exact HR7.out.mono HB6.out.size, HB6.out.trans (HB7.out.mono HB6.out.size)⟩
  · have h7 : ∀ i j, i < 7 → j < 7 → a * 7 + i ≠ b * 7 + j := fun i j hi hj => by omega
    go_wp2_with fail
    go_region
    all_goals
      clear a0 a1 a2 a3 a4 a5 a6 af al b0 b1 b2 b3 b4 b5 b6 bf bl c0 c1 c2 c3 c4 c5 c6 d0 d1 d2 d3 d4 d5 d6 fr
      obtain ⟨W, hW⟩ : ∃ W, W = (put7i (put7i w2 g a m b) g b m a).drew := ⟨_, rfl⟩
      have hz : W.heap.size = w2.heap.size := by rw [hW]; simp
      have hoth : ∀ k, k ≠ g → W.heap[k]? = w2.heap[k]? := fun k hk => by
        rw [hW, drew_heap, put7i_other _ _ _ _ _ _ hk, put7i_other _ _ _ _ _ _ hk]
      have HEW : Hid (Els W g (m : Int) T m) := Lib.hid (by rw [hW]; exact (HPUT.out w2 HEE.out HK.out).same (drew_heap _ _))
      have HBW : Hid (Below w.heap.size w W) := Lib.hid (by
        rw [hW]
        have hb2 := HB2.out
        exact (put7i_below (put7i_below hb2 g (by omega) a m b) g (by omega) b m a).drew)
      rw [← hW]
      obtain ⟨a0, a1, a2, a3, a4, a5, a6, af, al⟩ := seven ((hoth _ hga).trans HA0.out)
      clear hW hoth
      have hgW : g < W.heap.size := by omega
      go_wp2_with fail
      refine (HWT.out _ _ ⟨g, cp, rfl, hgW, HEW.out⟩).mono ?_
      rintro e w6 ⟨g6, k6, c6', f6, rfl, hg6, he6, hf6, hk6, hfl6, hb6⟩
      have hz_hb6 := hb6.size; (try simp at hz_hb6)
      have HE6 := Lib.hid he6; clear he6
      have HF6 := Lib.hid hf6; clear hf6
      have HB6 : Hid (Below w.heap.size w w6) := Lib.hid (by have hbw := HBW.out; (repeat' (first | (with_reducible assumption) | (with_reducible exact Below.refl _ _) | (with_reducible refine below_drewN ?_ _) | (with_reducible refine Below.drew ?_) | (with_reducible refine Below.alloc ?_ ?_ _) | (with_reducible refine Below.setCell ?_ ?_ _) | (with_reducible refine Below.trans ?_ (Below.mono (by assumption) ?_)) | (with_reducible exact Nat.le_refl _) | (with_reducible assumption) | omega | (simp; omega) | (simp; done))))
      clear hb6
      go_wp2_with fail
      refine (HN.out _ _ _ _ ⟨g6, _, rfl, hg6, HE6.out⟩ HF6.out hk6).mono ?_
      rintro e w7 ⟨v7, rfl, hr7, hb7⟩
      have HR7 := Lib.hid hr7; clear hr7
      have HB7 := Lib.hid hb7; clear hb7
      go_wp2
      go_ret2
      exact ⟨_, rfl, by rw [← hfl6]; exact HR7.out.mono HB6.out.size, HB6.out.trans (HB7.out.mono HB6.out.size)⟩
theorem key_SwapPoly (q : Int) (a : Int) (b : Int) : ∃ (r : List Int) (o : Bool), r.length ≤ 1048576 ∧ (∀ (w : World), Calls Try.prog 33 #[.int .i64 q, .int .i64 a, .int .i64 b] w fun e w' => ∃ v, e = .returned (.tuple #[v, .bool o]) ∧ Row w' w.heap.size v r ∧ Below w.heap.size w w') ∧
      (∀ (w : World), Calls Try.prog 34 #[.int .i64 q, .int .i64 a, .int .i64 b] w fun e w' => ∃ v, e = .returned (.tuple #[v, .bool o]) ∧ Row w' w.heap.size v r ∧ Below w.heap.size w w') := by
  cases h : inE q a && inE q b with
  | false => exact ⟨[], false, by simp, fun w => (spec_SwapPoly_no q a b w h).mono fun _ _ ⟨he, hb⟩ => ⟨_, he, Row.nil _ _, hb⟩, fun w => (impl_SwapPoly_no q a b w h).mono fun _ _ ⟨he, hb⟩ => ⟨_, he, Row.nil _ _, hb⟩⟩
  | true =>
    simp only [Bool.and_eq_true] at h
    obtain ⟨hs, a0, a1⟩ := inE_yes h.1
    obtain ⟨_, b0, b1⟩ := inE_yes h.2
    have hq := isSz_le q hs
    obtain ⟨m, rfl⟩ := Int.eq_ofNat_of_zero_le (show 0 ≤ q by omega)
    obtain ⟨A, rfl⟩ := Int.eq_ofNat_of_zero_le a0
    obtain ⟨B, rfl⟩ := Int.eq_ofNat_of_zero_le b0
    exact ⟨_, true, by have := ftl_len m (swT A B); omega, fun w => spec_SwapPoly_yes m A B w hs (by omega) (by omega), fun w => impl_SwapPoly_yes m A B w hs (by omega) (by omega)⟩
set_option maxRecDepth 100000 in
set_option maxHeartbeats 4000000 in
/-- laws.FnExactSwapPoly. -/
theorem walk_FnExactSwapPoly (q : Int) (a : Int) (b : Int) (w : World) (_h_q : (Lit.int .i64 q).wf = true) (_h_a : (Lit.int .i64 a).wf = true) (_h_b : (Lit.int .i64 b).wf = true) :
    Calls Try.prog 11 #[.int .i64 q, .int .i64 a, .int .i64 b] w fun e w' => e = .returned (.bool true) ∧ Below w.heap.size w w' := by
  clear _h_q
  clear _h_a
  clear _h_b
  obtain ⟨r, o, hr, k1, k2⟩ := key_SwapPoly q a b
  have K1 := Lib.hid k1; clear k1
  have K2 := Lib.hid k2; clear k2
  have HB0 : Hid (Below w.heap.size w w) := Lib.hid (Below.refl _ _)
  go_enter Try.func11, Try.ntmps11
  go_wp2_with fail
  refine (K1.out _ ).mono ?_
  rintro e w1 ⟨v_sp, rfl, hrw1, hbw1⟩
  have hzw1 : w.heap.size ≤ w1.heap.size := hbw1.size
  have HBw1 : Hid (Below w.heap.size w w1) := Lib.hid (HB0.out.trans (hbw1.mono HB0.out.size))
  have hww1 := HBw1.out.size
  clear hbw1 HB0
  have R_sp_w1 := Lib.hid hrw1; clear hrw1
  have lt_sp : Hid (∀ g, v_sp.ownBlock = some g → w.heap.size ≤ g ∧ g < w1.heap.size) := Lib.hid R_sp_w1.out.lt
  go_wp2_with fail
  refine (K2.out _ ).mono ?_
  rintro e w2 ⟨v_im, rfl, hrw2, hbw2⟩
  have hzw2 : w1.heap.size ≤ w2.heap.size := hbw2.size
  have R_sp_w2 := Lib.hid (R_sp_w1.out.below hbw2)
  clear R_sp_w1
  have HBw2 : Hid (Below w.heap.size w w2) := Lib.hid (HBw1.out.trans (hbw2.mono HBw1.out.size))
  have hww2 := HBw2.out.size
  clear hbw2 HBw1
  have R_im_w2 := Lib.hid hrw2; clear hrw2
  have lt_im : Hid (∀ g, v_im.ownBlock = some g → w1.heap.size ≤ g ∧ g < w2.heap.size) := Lib.hid R_im_w2.out.lt
  go_wp2_with fail
  refine (eq_same v_im v_sp r _ _ _ R_im_w2.out R_sp_w2.out (by omega)).mono ?_
  rintro e w3 ⟨rfl, hbw3⟩
  have hzw3 : w2.heap.size ≤ w3.heap.size := hbw3.size
  have R_sp_w3 := Lib.hid (R_sp_w2.out.below hbw3)
  clear R_sp_w2
  have R_im_w3 := Lib.hid (R_im_w2.out.below hbw3)
  clear R_im_w2
  have HBw3 : Hid (Below w.heap.size w w3) := Lib.hid (HBw2.out.trans (hbw3.mono HBw2.out.size))
  have hww3 := HBw3.out.size
  clear hbw3 HBw2
  go_wp2_with fail
  refine (mark_any v_im r _ (1) _ R_im_w3.out (by omega) (by omega) (by omega)).mono ?_
  rintro e w4 ⟨rfl, hrw4, hgw4⟩
  have hzw4 : w3.heap.size ≤ w4.heap.size := hgw4.size
  have R_sp_w4 := Lib.hid (R_sp_w3.out.keep (w' := w4) fun g hg => hgw4.block g (R_sp_w3.out.lt g hg).2 fun e => by have h1 := lt_sp.out g hg; have h2 := lt_im.out g e.symm; omega)
  clear R_sp_w3
  have HBw4 : Hid (Below w.heap.size w w4) := Lib.hid (Below.grown HBw3.out hgw4 (by omega) (fun g e => by have h2 := lt_im.out g e; omega))
  have hww4 := HBw4.out.size
  have R_im_w4 := Lib.hid hrw4
  clear hrw4 hgw4 HBw3 R_im_w3
  go_wp2_with fail
  refine (held_any v_im r.length _ (1) _ R_im_w4.out (by omega) (by omega) (by omega)).mono ?_
  rintro e wx1 ⟨rfl, rfl⟩
  go_wp2_with fail
  refine (K2.out _ ).mono ?_
  rintro e w5 ⟨v_im2, rfl, hrw5, hbw5⟩
  have hzw5 : w4.heap.size ≤ w5.heap.size := hbw5.size
  have R_sp_w5 := Lib.hid (R_sp_w4.out.below hbw5)
  clear R_sp_w4
  have R_im_w5 := Lib.hid (R_im_w4.out.below hbw5)
  clear R_im_w4
  have HBw5 : Hid (Below w.heap.size w w5) := Lib.hid (HBw4.out.trans (hbw5.mono HBw4.out.size))
  have hww5 := HBw5.out.size
  clear hbw5 HBw4
  have R_im2_w5 := Lib.hid hrw5; clear hrw5
  have lt_im2 : Hid (∀ g, v_im2.ownBlock = some g → w4.heap.size ≤ g ∧ g < w5.heap.size) := Lib.hid R_im2_w5.out.lt
  go_wp2_with fail
  refine (eq_same v_im2 v_sp r _ _ _ R_im2_w5.out R_sp_w5.out (by omega)).mono ?_
  rintro e w6 ⟨rfl, hbw6⟩
  have hzw6 : w5.heap.size ≤ w6.heap.size := hbw6.size
  have R_sp_w6 := Lib.hid (R_sp_w5.out.below hbw6)
  clear R_sp_w5
  have R_im_w6 := Lib.hid (R_im_w5.out.below hbw6)
  clear R_im_w5
  have R_im2_w6 := Lib.hid (R_im2_w5.out.below hbw6)
  clear R_im2_w5
  have HBw6 : Hid (Below w.heap.size w w6) := Lib.hid (HBw5.out.trans (hbw6.mono HBw5.out.size))
  have hww6 := HBw6.out.size
  clear hbw6 HBw5
  go_wp2_with fail
  refine (held_any v_im r.length _ (1) _ R_im_w6.out (by omega) (by omega) (by omega)).mono ?_
  rintro e wx2 ⟨rfl, rfl⟩
  go_wp2
  go_ret
  exact ⟨rfl, HBw6.out⟩
end Go.Proofs.Ytommagdddleoiaa
