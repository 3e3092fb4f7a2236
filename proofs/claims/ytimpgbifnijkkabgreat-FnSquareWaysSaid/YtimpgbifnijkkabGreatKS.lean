/- A bundle of texts: GD GE GF. -/
import Derived.Test.YtimpgbifnijkkabGreatVW
import Derived.Test.YtimpgbifnijkkabGreatVA
import Derived.Test.YtimpgbifnijkkabGreatNN
import Derived.Test.YtimpgbifnijkkabGreatKR
import Derived.Test.YtimpgbifnijkkabGreatUB
import Derived.Test.YtimpgbifnijkkabGreatIM
import Derived.Test.YtimpgbifnijkkabGreatLD
namespace Go.Proofs.YtimpgbifnijkkabGreat
open Go.RowKit
/-- All pairs of one size. -/
def wayOK (m : Nat) : Bool := (List.range m).all fun a => (List.range m).all fun b =>
  let t : Nat → Int := fun x => kwF m (a : Int) (b : Int) x
  (dis t m == nsq m (mulF m (a : Int) (b : Int))) && (cpt m t == wcp m (a : Int) (b : Int))
theorem way3 : wayOK 3 = true := by decide +kernel
theorem way5 : wayOK 5 = true := by decide +kernel
theorem way7 : wayOK 7 = true := by decide +kernel
theorem way9 : wayOK 9 = true := by decide +kernel
theorem way11 : wayOK 11 = true := by decide +kernel
theorem way13 : wayOK 13 = true := by decide +kernel
theorem below_newG {w u u' : World} {o : Obj} (h : Below w.heap.size w u) (hb : Below (u.alloc o).heap.size (u.alloc o) u') : Below w.heap.size w u' := by
  have h1 := h.trans ((Below.alloc (Below.refl _ _) (Nat.le_refl _) o).mono h.size)
  exact h1.trans (hb.mono h1.size)
theorem sn_lastG {f : Nat → Int} : ∀ n, 0 < sn f n → f (sn f n - 1) ≠ 0
  | 0, h => absurd h (Nat.lt_irrefl 0)
  | n + 1, h => by
    unfold sn at h ⊢
    by_cases e : f n = 0
    · rw [if_pos e] at h ⊢
      exact sn_lastG n h
    · rw [if_neg e]
      exact e
theorem Tb.at {m n : Nat} {f t : Nat → Int} (p : Tb m f n t) : (fun i => (fl f n).getD i 0) = f := by
  funext i
  by_cases hi : i < n
  · exact fl_get f n i hi
  · rw [p.past i (by omega), List.getD_eq_getElem?_getD, List.getElem?_eq_none (by rw [fl_len]; omega)]
    rfl
theorem Tb.good {m n : Nat} {f t : Nat → Int} (p : Tb m f n t) : good (m : Int) (fl f n) = true := by
  have g2 : (fl f n).all (inF m) = true := List.all_eq_true.2 fun x hx => by
    obtain ⟨i, _, rfl⟩ := List.mem_map.1 (show x ∈ (List.range _).map _ from hx)
    have := p.el i
    simpa [inF, El] using this
  have hl : ((fl f n).length : Int) ≤ m := by rw [fl_len]; have := p.le; omega
  by_cases h0 : 0 < (fl f n).length
  · rw [good_last hl g2 h0]
    rw [fl_len] at h0 ⊢
    refine decide_eq_true ?_
    rw [fl_get f n (n - 1) (by omega)]
    have h1 := sn_lastG (f := f) n (by rw [p.tr]; exact h0)
    rw [p.tr] at h1
    have := (p.el (n - 1)).1
    omega
  · have e : fl f n = [] := List.length_eq_zero_iff.1 (by omega)
    rw [e]
    simp [Go.Proofs.YtimpgbifnijkkabGreat.good]
theorem Tb.tbl {m n : Nat} {f t : Nat → Int} (h : isSz (m : Int) = true) (p : Tb m f n t) (x : Nat) (hx : x < m) : tbl m (fl f n) x = t x := by
  show hor m (x : Int) (fun i => (fl f n).getD i 0) (fl f n).length (fl f n).length = t x
  rw [p.at, fl_len, hor_val h (El.nat hx) p.el n, p.short h x hx]
theorem cpt_cgG {m : Nat} {t u : Nat → Int} (h : ∀ a, a < m → t a = u a) : cpt m t = cpt m u := by
  unfold cpt
  rw [dis_cg h, dis_cg (t := cmt m t) (u := cmt m u) fun a ha => by show addF m (t a) _ = addF m (u a) _; rw [h a ha]]
theorem ways_ok {m : Nat} (h : isSz (m : Int) = true) (ho : (m : Int) % 2 = 1) : wayOK m = true := by
  have hq := isSz_le (m : Int) h
  obtain rfl | rfl | rfl | rfl | rfl | rfl | rfl : m = 3 ∨ m = 5 ∨ m = 7 ∨ m = 9 ∨ m = 11 ∨ m = 13 ∨ m = 15 := by omega
  · exact way3
  · exact way5
  · exact way7
  · exact way9
  · exact way11
  · exact way13
  · exact absurd h (by decide)
theorem inE_ofG {q x : Int} (h : isSz q = true) (hx : El q x) : inE q x = true := by
  simp [inE, h, hx.1, hx.2]
theorem way_at {m : Nat} {a b : Int} (h : isSz (m : Int) = true) (ho : (m : Int) % 2 = 1) (ea : El (m : Int) a) (eb : El (m : Int) b) :
    dis (kwF m a b) m = nsq m (mulF m a b) ∧ cpt m (kwF m a b) = wcp m a b := by
  obtain ⟨A, rfl⟩ := Int.eq_ofNat_of_zero_le ea.1
  obtain ⟨B, rfl⟩ := Int.eq_ofNat_of_zero_le eb.1
  have ha := ea.2
  have hb := eb.2
  have := List.all_eq_true.1 (List.all_eq_true.1 (ways_ok h ho) A (List.mem_range.2 (by omega))) B (List.mem_range.2 (by omega))
  simp only [Bool.and_eq_true, beq_iff_eq] at this
  exact this
theorem kwF_elG {m : Nat} {a b : Int} (h : isSz (m : Int) = true) (ea : El (m : Int) a) (eb : El (m : Int) b) (x : Nat) (hx : x < m) : El (m : Int) (kwF m a b x) := by
  unfold kwF
  split
  · exact El.zero h
  · refine El.mul h ?_ (El.nat hx)
    split
    · exact ea
    · exact eb
set_option maxHeartbeats 2000000 in
/-- laws.tPermutes, of a polynomial. -/
theorem tPermutes_yes (m : Nat) (v : Value) (l : List Int) (w : World) (h : isSz (m : Int) = true) (hv : Sl w v l) (hg : good (m : Int) l = true) :
    Calls Tryz.prog 15 #[.int .i64 m, v] w fun e w' => e = .returned (.bool (dis (tbl m l) m)) ∧ Below w.heap.size w w' := by
  have HP : Hid (Calls Tryz.prog 45 #[.int .i64 m, v] w fun e w' => e = .returned (.tuple #[.bool (dis (tbl m l) m), .bool true]) ∧ Below w.heap.size w w') := Lib.hid (impl_DoesPermute_yes m v l w h hv hg)
  clear hv hg h
  generalize dis (tbl m l) m = r at *
  go_enter Tryz.func15, Tryz.ntmps15
  go_wp2_with fail
  refine HP.out.mono ?_
  rintro e w1 ⟨rfl, hb⟩
  go_wp2
  go_ret
  exact ⟨rfl, hb⟩
/-- What the law asks of SquareWays and the like. -/
theorem ask_Ways (q a b : Int) : ∃ (L : List Int) (p c o : Bool), L.length ≤ 1048576 ∧
    (∀ w, Calls Tryz.prog 6 #[.int .i64 q, .int .i64 a, .int .i64 b] w fun e w' => ∃ v, e = .returned (.tuple #[v, .bool o]) ∧ Row w' w.heap.size v L ∧ Below w.heap.size w w') ∧
    (∀ w, Calls Tryz.prog 7 #[.int .i64 q, .int .i64 a, .int .i64 b] w fun e w' => ∃ v, e = .returned (.tuple #[v, .bool o]) ∧ Row w' w.heap.size v L ∧ Below w.heap.size w w') ∧
    (∀ w, Calls Tryz.prog 8 #[.int .i64 q, .int .i64 a, .int .i64 b] w fun e w' => e = .returned (.tuple #[.bool p, .bool o]) ∧ Below w.heap.size w w') ∧
    (∀ w, Calls Tryz.prog 9 #[.int .i64 q, .int .i64 a, .int .i64 b] w fun e w' => e = .returned (.tuple #[.bool p, .bool o]) ∧ Below w.heap.size w w') ∧
    (∀ w, Calls Tryz.prog 10 #[.int .i64 q, .int .i64 a, .int .i64 b] w fun e w' => e = .returned (.tuple #[.bool c, .bool o]) ∧ Below w.heap.size w w') ∧
    (∀ w, Calls Tryz.prog 11 #[.int .i64 q, .int .i64 a, .int .i64 b] w fun e w' => e = .returned (.tuple #[.bool c, .bool o]) ∧ Below w.heap.size w w') ∧
    (o = true → (c = true → p = true) ∧ ∃ F : List Int,
      (∀ w v, Sl w v L → Calls Tryz.prog 13 #[.int .i64 q, v] w fun e w' => ∃ v', e = .returned (.tuple #[v', .bool true]) ∧ Row w' w.heap.size v' F ∧ Below w.heap.size w w') ∧
      (∀ w v, Sl w v F → Calls Tryz.prog 14 #[.int .i64 q, v] w fun e w' => e = .returned (.tuple #[.bool c, .bool true]) ∧ Below w.heap.size w w') ∧
      (∀ w v, Sl w v F → Calls Tryz.prog 15 #[.int .i64 q, v] w fun e w' => e = .returned (.bool p) ∧ Below w.heap.size w w')) := by
  cases hd : odp q a b with
  | false =>
    exact ⟨[], false, false, false, by simp, fun w => (impl_SquareWays_no q a b w hd).mono fun _ _ ⟨he, hb⟩ => ⟨_, he, Row.nil _ _, hb⟩, fun w => (spec_SquareWays_no q a b w hd).mono fun _ _ ⟨he, hb⟩ => ⟨_, he, Row.nil _ _, hb⟩,
      fun w => impl_SquareWaysPermute_no q a b w hd, fun w => spec_SquareWaysPermute_no q a b w hd, fun w => impl_WaysComplete_no q a b w hd, fun w => spec_WaysComplete_no q a b w hd, fun e => by cases e⟩
  | true =>
    obtain ⟨m, rfl, h, ho, ha, hb⟩ := odp_nat hd
    have hq := isSz_le (m : Int) h
    have ea := inE_el ha
    have eb := inE_el hb
    obtain ⟨w1, w2⟩ := way_at h ho ea eb
    have hg : ∀ i, i < m → (fl (kwF m a b) m).getD i 0 = kwF m a b i := fun i hi => fl_get _ _ _ hi
    have hall : (fl (kwF m a b) m).all (inF m) = true := List.all_eq_true.2 fun x hx => by
      obtain ⟨i, hi, rfl⟩ := List.mem_map.1 (show x ∈ (List.range _).map _ from hx)
      have := kwF_elG h ea eb i (List.mem_range.1 hi)
      simpa [inF, El] using this
    have htab : tabl (m : Int) (fl (kwF m a b) m) = true := by
      unfold tabl
      rw [hall, fl_len]
      simp
    have P := tb_with h (all_el h hall)
    have e1 := way_at h ho ea eb
    have f1 : ∀ x, x < m → tbl m (fl (redR m (tms m (fun i => (fl (kwF m a b) m).getD i 0)) m) (redn m (tms m (fun i => (fl (kwF m a b) m).getD i 0)) m)) x = kwF m a b x := fun x hx => (P.tbl h x hx).trans (hg x hx)
    have f2 := dis_cg f1
    have f3 := cpt_cgG f1
    refine ⟨fl (kwF m a b) m, nsq m (mulF m a b), wcp m a b, true, by rw [fl_len]; omega, fun w => impl_SquareWays_yes m a b w h ho ha hb, fun w => spec_SquareWays_yes m a b w hd h ho ha hb,
      fun w => impl_SquareWaysPermute_yes m a b w h ho ha hb, fun w => spec_SquareWaysPermute_yes m a b w hd h ho ha hb, fun w => impl_WaysComplete_yes m a b w h ho ha hb, fun w => spec_WaysComplete_yes m a b w hd h ho ha hb,
      fun _ => ⟨fun hc => by unfold wcp at hc; rw [Bool.and_eq_true] at hc; exact hc.1, _, fun w v hv => impl_PolyOf_yes m v _ w h hv htab, fun w v hv => ?_, fun w v hv => ?_⟩⟩
    · have := impl_IsComplete_yes m v _ w h hv P.good
      rw [f3, w2] at this
      exact this
    · have := tPermutes_yes m v _ w h hv P.good
      rw [f2, w1] at this
      exact this
/-- What the law asks of CountWaysComplete. -/
theorem ask_CountW (r : Int) : ∃ (s : Int) (o : Bool),
    (∀ w, Calls Tryz.prog 17 #[.int .i64 r] w fun e w' => e = .returned (.tuple #[.int .i64 s, .bool o]) ∧ Below w.heap.size w w') ∧
    (∀ w, Calls Tryz.prog 18 #[.int .i64 r] w fun e w' => e = .returned (.tuple #[.int .i64 s, .bool o]) ∧ Below w.heap.size w w') ∧
    (o = true → ∃ (m : Nat) (X : Nat → Nat → Bool) (S : Nat → Int) (Y : Nat → Nat → Int), r = (m : Int) ∧ m ≤ 16 ∧ S 0 = 0 ∧ S m = s ∧
      (∀ x y w, x < m → y < m → Calls Tryz.prog 10 #[.int .i64 r, .int .i64 (x : Int), .int .i64 (y : Int)] w fun e w' => e = .returned (.tuple #[.bool (X x y), .bool true]) ∧ Below w.heap.size w w') ∧
      (∀ x, x < m → Y x 0 = S x ∧ Y x m = S (x + 1) ∧ ∀ y, y < m → (0 ≤ Y x y ∧ Y x y ≤ 1000) ∧ (X x y = true → Y x (y + 1) = Y x y + 1) ∧ (X x y = false → Y x (y + 1) = Y x y))) := by
  cases ho : odq r with
  | false =>
    refine ⟨0, false, fun w => ?_, fun w => spec_CountWaysComplete_no r w ho, fun e => by cases e⟩
    cases h : isSz r with
    | false => exact impl_CountWaysComplete_no1 r w h
    | true =>
      have hq := isSz_le r h
      obtain ⟨m, rfl⟩ := Int.eq_ofNat_of_zero_le (show 0 ≤ r by omega)
      refine impl_CountWaysComplete_no2 m w h ?_
      unfold odq at ho
      rw [h, Bool.true_and, decide_eq_false_iff_not] at ho
      omega
  | true =>
    obtain ⟨m, rfl, h, h1⟩ := odq_nat ho
    have hq := isSz_le (m : Int) h
    refine ⟨_, true, fun w => impl_CountWaysComplete_yes m w h h1, fun w => spec_CountWaysComplete_yes m w h h1, fun _ => ⟨m, fun x y => wcp m (x : Int) (y : Int), cwc m, fun x => cwc.cwd m (cwc m x) x, rfl, by omega, rfl, rfl, fun x y w hx hy => ?_, fun x hx => ⟨rfl, rfl, fun y hy => ?_⟩⟩⟩
    · exact impl_WaysComplete_yes m _ _ w h h1 (inE_ofG h (El.nat hx)) (inE_ofG h (El.nat hy))
    · have c1 := cwc_bd m x
      have c2 := cwd_bd m (cwc m x) x c1.1 y
      have c3 := mul_le16 (i := x) hq.2 (by omega)
      dsimp only
      refine ⟨⟨c2.1, by omega⟩, fun e => ?_, fun e => ?_⟩
      · show (if wcp m (x : Int) (y : Int) then _ else _) = _
        rw [if_pos e]
      · show (if wcp m (x : Int) (y : Int) then _ else _) = _
        rw [if_neg (by rw [e]; exact Bool.false_ne_true)]
set_option maxHeartbeats 1000000 in
/-- laws.tSame, of two slices that hold the same. -/
theorem tSame_same (v1 v2 : Value) (l : List Int) (w : World) (h1 : Sl w v1 l) (h2 : Sl w v2 l) (hl : l.length ≤ 1048576) :
    Calls Tryz.prog 12 #[v1, v2] w fun e w' => e = .returned (.bool true) ∧ Below w.heap.size w w' := by
  by_cases h0 : 0 < l.length
  · obtain ⟨b1, o1, c1, rfl, hb1, hc1⟩ := h1.open rfl h0
    obtain ⟨b2, o2, c2, rfl, hb2, hc2⟩ := h2.open rfl h0
    have HC1 := Lib.hid hc1
    have HC2 := Lib.hid hc2
    clear h1 h2 hc1 hc2
    generalize hn : l.length = n at *
    go_enter Tryz.func12, Tryz.ntmps12
    go_wp2_with fail
    go_loopw [13] (fun vi wr => ∃ i : Nat, i ≤ n ∧ vi = .int .i64 i ∧ Below w.heap.size w wr) (fun vi _ => n - (intOf vi).toNat)
    case atStart => exact ⟨0, Nat.zero_le _, rfl, by (repeat' (first | (with_reducible assumption) | (with_reducible exact Below.refl _ _) | (with_reducible refine below_drewN ?_ _) | (with_reducible refine Below.drew ?_) | (with_reducible refine Below.alloc ?_ ?_ _) | (with_reducible refine Below.setCell ?_ ?_ _) | (with_reducible refine Below.trans ?_ (Below.mono (by assumption) ?_)) | (with_reducible exact Nat.le_refl _) | (with_reducible assumption) | omega | (simp; omega) | (simp; done)))⟩
    case round =>
      obtain ⟨i, hi, rfl, hb⟩ := hrel
      by_cases hlt : i < n
      · have e1 := (hb.cell (p := ⟨b1, o1 + i, none⟩) hb1).trans (HC1.out i hlt)
        have e2 := (hb.cell (p := ⟨b2, o2 + i, none⟩) hb2).trans (HC2.out i hlt)
        have hz := hb.size
        have HB := Lib.hid hb; clear hb
        generalize l.getD i 0 = x at *
        have l1 : b1 < wr.heap.size := by omega
        have l2 : b2 < wr.heap.size := by omega
        go_wp2_with fail
        go_region
        go_wp2_with fail
        go_roundw
        case rel => exact ⟨i + 1, by omega, by go_num, by have hb := HB.out; (repeat' (first | (with_reducible assumption) | (with_reducible exact Below.refl _ _) | (with_reducible refine below_drewN ?_ _) | (with_reducible refine Below.drew ?_) | (with_reducible refine Below.alloc ?_ ?_ _) | (with_reducible refine Below.setCell ?_ ?_ _) | (with_reducible refine Below.trans ?_ (Below.mono (by assumption) ?_)) | (with_reducible exact Nat.le_refl _) | (with_reducible assumption) | omega | (simp; omega) | (simp; done)))⟩
        case measure => simp [intOf]; omega
      · obtain rfl : n = i := by omega
        have HB := Lib.hid hb; clear hb
        go_wp2
        go_ret
        exact ⟨rfl, HB.out⟩
  · obtain rfl : l = [] := List.length_eq_zero_iff.1 (by omega)
    obtain ⟨a1, c1, rfl⟩ := h1.empty
    obtain ⟨a2, c2, rfl⟩ := h2.empty
    clear h1 h2 h0 hl
    go_enter Tryz.func12, Tryz.ntmps12
    go_wp2_with fail
    go_loopw [13] (fun vi wr => vi = .int .i64 0 ∧ wr = w) (fun _ _ => 0)
    case atStart => exact ⟨rfl, rfl⟩
    case round =>
      obtain ⟨rfl, rfl⟩ := hrel
      go_wp2
      go_ret
      exact ⟨rfl, Below.refl _ _⟩
theorem big_yes (a0 a1 : Option Addr) (n0 c0 n1 c1 : Nat) (w : World) (h : ¬ n0 + n1 ≤ 1048576) :
    Calls Tryz.prog 4 #[.slice a0 n0 c0, .slice a1 n1 c1] w fun e w' => e = .returned (.bool true) ∧ w = w' := by
  by_cases h0 : 1048576 < n0
  · have h1 : (1048576 : Int) < (n0 : Int) := by omega
    go_enter Tryz.func4, Tryz.ntmps4
    go_wp2
    go_ret
    exact ⟨by first | rfl | simp [h1], by first | rfl | trivial⟩
  · have h1 : ¬ (1048576 : Int) < (n0 : Int) := by omega
    have h2 : (1048576 : Int) - (n0 : Int) < (n1 : Int) := by omega
    have hw : IntKind.i64.wrap (1048576 - (n0 : Int)) = 1048576 - (n0 : Int) := IntWalk.i64_in _ (by omega)
    go_enter Tryz.func4, Tryz.ntmps4
    go_wp2
    go_ret
    exact ⟨by first | rfl | simp [h2], by first | rfl | trivial⟩
set_option maxHeartbeats 2000000 in
/-- spec.DrawCountWaysComplete. -/
theorem drawCountWays_any (a : Option Addr) (n c : Nat) (w : World) (h : Bys w a n) :
    Calls Tryz.prog 16 #[.slice a n c] w fun e w' => ∃ q : Int, e = .returned (.int .i64 q) ∧ Below w.heap.size w w' := by
  have HS := Lib.hid (odd_any w.heap.size a n c 0 _ (h.cur c) (by omega))
  clear h
  go_enter Tryz.func16, Tryz.ntmps16
  go_wp2_with fail
  refine (HS.out).mono ?_
  rintro e w1 ⟨q, rfl, hc1, hk1⟩
  go_wp2
  go_ret
  exact ⟨q, rfl, hk1.start⟩
set_option maxHeartbeats 4000000 in
/-- spec.DrawSquareWays. -/
theorem drawSquareWays_any (a : Option Addr) (n c : Nat) (w : World) (h : Bys w a n) :
    Calls Tryz.prog 5 #[.slice a n c] w fun e w' => ∃ q x y : Int, e = .returned (.tuple #[.int .i64 q, .int .i64 x, .int .i64 y]) ∧ Below w.heap.size w w' := by
  have HS := Lib.hid (size_any w.heap.size a n c 0 _ (h.cur c) (by omega))
  have HE := Lib.hid (fun k q w' (hc : Cu w' w.heap.size a n c k) (hk : k ≤ 800) => elem_any w.heap.size a n c k q w' hc (by omega))
  have HO := Lib.hid (fun k m w' (hc : Cu w' w.heap.size a n c k) (hk : k ≤ 800) => one_any w.heap.size a n c k m w' hc (by omega))
  have HA := Lib.hid (fun k l w' (hc : Cu w' w.heap.size a n c k) (hk : k ≤ 800) (hl : l.length = 6) o => among_new w.heap.size a n c k 6 l w' hc (by omega) hl (by omega) (by omega) o)
  clear h
  go_enter Tryz.func5, Tryz.ntmps5
  go_wp2_with fail
  refine (HS.out).mono ?_
  rintro e w1 ⟨q, rfl, hc1, hk1⟩
  have HC1 := Lib.hid hc1
  have HK1 := Lib.hid hk1
  clear hk1 hc1 HS
  go_wp2_with fail
  refine (HO.out _ _ _ HC1.out (by omega)).mono ?_
  rintro e w2 ⟨b, rfl, hc2, hk2⟩
  have HC2 := Lib.hid hc2
  have HK2 := Lib.hid (HK1.out.trans hk2)
  clear hk2 hc2
  cases b with
  | false =>
    go_wp2_with fail
    refine (HE.out _ q _ HC2.out (by omega)).mono ?_
    rintro e w3 ⟨x, rfl, hc3, hk3⟩
    have HC3 := Lib.hid hc3
    have HK3 := Lib.hid (HK2.out.trans hk3)
    clear hk3 hc3
    go_wp2_with fail
    refine (HE.out _ q _ HC3.out (by omega)).mono ?_
    rintro e w4 ⟨y, rfl, hc4, hk4⟩
    have HK4 := Lib.hid (HK3.out.trans hk4)
    clear hk4 hc4
    go_wp2
    go_ret3
    exact ⟨q, x, y, rfl, HK4.out.start⟩
  | true =>
    go_wp2_with fail
    refine (HA.out _ [3, 5, 7, 9, 11, 13] _ HC2.out (by omega) rfl _ rfl).mono ?_
    rintro e w5 ⟨q5, rfl, hc5, hk5⟩
    have HC5 := Lib.hid hc5
    have HK5 := Lib.hid (HK2.out.trans hk5)
    clear hk5 hc5
    go_wp2_with fail
    refine (HE.out _ q5 _ HC5.out (by omega)).mono ?_
    rintro e w3 ⟨x, rfl, hc3, hk3⟩
    have HC3 := Lib.hid hc3
    have HK3 := Lib.hid (HK5.out.trans hk3)
    clear hk3 hc3
    go_wp2_with fail
    refine (HE.out _ q5 _ HC3.out (by omega)).mono ?_
    rintro e w4 ⟨y, rfl, hc4, hk4⟩
    have HK4 := Lib.hid (HK3.out.trans hk4)
    clear hk4 hc4
    go_wp2
    go_ret3
    exact ⟨q5, x, y, rfl, HK4.out.start⟩
set_option maxRecDepth 100000 in
set_option maxHeartbeats 20000000 in
/-- laws.FnSquareWays. -/
theorem walk_FnSquareWays (a0 : Option Addr) (n0 c0 : Nat) (z0 : List Int) (a1 : Option Addr) (n1 c1 : Nat) (z1 : List Int) (w : World) (h0 : IsRow .u8 w a0 n0 c0 z0) (h1 : IsRow .u8 w a1 n1 c1 z1) :
    Calls Tryz.prog 3 #[.slice a0 n0 c0, .slice a1 n1 c1] w fun e w' => e = .returned (.bool true) ∧ Below w.heap.size w w' := by
  by_cases hbg : n0 + n1 ≤ 1048576
  · have HBG := Lib.hid (big_no a0 a1 n0 c0 n1 c1 w hbg)
    have H0 := Lib.hid (h0.bys (by omega))
    have H1 := Lib.hid (h1.bys (by omega))
    have HU0 : Hid (Below w.heap.size w w) := Lib.hid (Below.refl _ _)
    clear h0 h1 hbg
    go_enter Tryz.func3, Tryz.ntmps3
    go_wp2_with fail
    refine HBG.out.mono ?_
    rintro e _ ⟨rfl, rfl⟩
    clear HBG
    go_wp2_with fail
    refine (drawSquareWays_any a0 n0 c0 _ H0.out).mono ?_
    rintro e u1 ⟨q, a, b, rfl, hb1⟩
    have HU1 : Hid (Below w.heap.size w u1) := Lib.hid (HU0.out.trans (hb1.mono HU0.out.size)); clear hb1
    obtain ⟨L, p, c, o, hl, i1, i2, i3, i4, i5, i6, i7⟩ := ask_Ways q a b
    have HL := Lib.hid hl; clear hl
    have I1 := Lib.hid i1; clear i1
    have I2 := Lib.hid i2; clear i2
    have I3 := Lib.hid i3; clear i3
    have I4 := Lib.hid i4; clear i4
    have I5 := Lib.hid i5; clear i5
    have I6 := Lib.hid i6; clear i6
    have I7 := Lib.hid i7; clear i7
    go_wp2_with fail
    refine (I1.out _).mono ?_
    rintro e u2 ⟨v1, rfl, hr, hb2⟩
    have SA1 := Lib.hid hr.sl; clear hr
    have HU2 : Hid (Below w.heap.size w u2) := Lib.hid (HU1.out.trans (hb2.mono HU1.out.size)); clear hb2
    go_wp2_with fail
    refine (I2.out _).mono ?_
    rintro e u3 ⟨v2, rfl, hr, hb3⟩
    have SB1 := Lib.hid hr.sl; clear hr
    have SA2 := Lib.hid (SA1.out.below hb3 (Nat.le_refl _)); clear SA1
    have HU3 : Hid (Below w.heap.size w u3) := Lib.hid (HU2.out.trans (hb3.mono HU2.out.size)); clear hb3
    go_wp2_with fail
    refine (I3.out _).mono ?_
    rintro e u4 ⟨rfl, hb4⟩
    have SA3 := Lib.hid (SA2.out.below hb4 (Nat.le_refl _)); clear SA2
    have SB2 := Lib.hid (SB1.out.below hb4 (Nat.le_refl _)); clear SB1
    have HU4 : Hid (Below w.heap.size w u4) := Lib.hid (HU3.out.trans (hb4.mono HU3.out.size)); clear hb4
    go_wp2_with fail
    refine (I4.out _).mono ?_
    rintro e u5 ⟨rfl, hb5⟩
    have SA4 := Lib.hid (SA3.out.below hb5 (Nat.le_refl _)); clear SA3
    have SB3 := Lib.hid (SB2.out.below hb5 (Nat.le_refl _)); clear SB2
    have HU5 : Hid (Below w.heap.size w u5) := Lib.hid (HU4.out.trans (hb5.mono HU4.out.size)); clear hb5
    go_wp2_with fail
    refine (I5.out _).mono ?_
    rintro e u6 ⟨rfl, hb6⟩
    have SA5 := Lib.hid (SA4.out.below hb6 (Nat.le_refl _)); clear SA4
    have SB4 := Lib.hid (SB3.out.below hb6 (Nat.le_refl _)); clear SB3
    have HU6 : Hid (Below w.heap.size w u6) := Lib.hid (HU5.out.trans (hb6.mono HU5.out.size)); clear hb6
    go_wp2_with fail
    refine (I6.out _).mono ?_
    rintro e u7 ⟨rfl, hb7⟩
    have SA6 := Lib.hid (SA5.out.below hb7 (Nat.le_refl _)); clear SA5
    have SB5 := Lib.hid (SB4.out.below hb7 (Nat.le_refl _)); clear SB4
    have HU7 : Hid (Below w.heap.size w u7) := Lib.hid (HU6.out.trans (hb7.mono HU6.out.size)); clear hb7
    go_wp2_with fail
    refine (tSame_same v1 v2 L _ SA6.out SB5.out HL.out).mono ?_
    rintro e u8 ⟨rfl, hb8⟩
    have SA7 := Lib.hid (SA6.out.below hb8 (Nat.le_refl _)); clear SA6 SB5
    have HU8 : Hid (Below w.heap.size w u8) := Lib.hid (HU7.out.trans (hb8.mono HU7.out.size)); clear hb8
    cases o with
    | false =>
      clear I7
      go_wp2_with fail
      refine (drawCountWays_any a1 n1 c1 _ (H1.out.below HU8.out)).mono ?_
      rintro e u9 ⟨r, rfl, hb9⟩
      have HU9 : Hid (Below w.heap.size w u9) := Lib.hid (HU8.out.trans (hb9.mono HU8.out.size)); clear hb9
      obtain ⟨s, o2, k1, k2, k3⟩ := ask_CountW r
      have K1 := Lib.hid k1; clear k1
      have K2 := Lib.hid k2; clear k2
      have K3 := Lib.hid k3; clear k3
      go_wp2_with fail
      refine (K1.out _).mono ?_
      rintro e u10 ⟨rfl, hb10⟩
      have HU10 : Hid (Below w.heap.size w u10) := Lib.hid (HU9.out.trans (hb10.mono HU9.out.size)); clear hb10
      go_wp2_with fail
      refine (K2.out _).mono ?_
      rintro e u11 ⟨rfl, hb11⟩
      have HU11 : Hid (Below w.heap.size w u11) := Lib.hid (HU10.out.trans (hb11.mono HU10.out.size)); clear hb11
      cases o2 with
      | false =>
        go_wp2
        go_ret
        exact ⟨rfl, HU11.out⟩
      | true =>
        obtain ⟨m, X, S, Y, rfl, hm, l1, l2, k4, l3⟩ := K3.out rfl
        clear K3
        have L1 := Lib.hid l1; clear l1
        have L2 := Lib.hid l2; clear l2
        have L3 := Lib.hid l3; clear l3
        have K4 := Lib.hid k4; clear k4
        go_wp2_with fail
        go_loopw [29, 30] (fun va vx wr => ∃ x : Nat, x ≤ m ∧ va = .int .i64 (S x) ∧ vx = .int .i64 x ∧ Below u11.heap.size u11 wr) (fun _ vx _ => m - (intOf vx).toNat)
        case atStart => exact ⟨0, Nat.zero_le _, by rw [L1.out], rfl, Below.refl _ _⟩
        case round =>
          obtain ⟨x, hx, rfl, rfl, hbw⟩ := hrel
          obtain ⟨wo, rfl⟩ : ∃ z : World, z = wr := ⟨_, rfl⟩
          have HBW := Lib.hid hbw; clear hbw
          by_cases hlt : x < m
          · obtain ⟨y0, y1, y2⟩ := L3.out x hlt
            have Y0 := Lib.hid y0; clear y0
            have Y1 := Lib.hid y1; clear y1
            have Y2 := Lib.hid y2; clear y2
            have KX := Lib.hid (fun y w hy => K4.out x y w hlt hy)
            go_wp2_with fail
            go_loopw [29, 31] (fun va vy ws => ∃ y : Nat, y ≤ m ∧ va = .int .i64 (Y x y) ∧ vy = .int .i64 y ∧ Below wo.heap.size wo ws) (fun _ vy _ => m - (intOf vy).toNat)
            case atStart => exact ⟨0, Nat.zero_le _, by rw [Y0.out], rfl, Below.refl _ _⟩
            case round =>
              obtain ⟨y, hy, rfl, rfl, hbs⟩ := hrel
              have HBS := Lib.hid hbs; clear hbs
              by_cases hlt2 : y < m
              · obtain ⟨⟨b0, b1⟩, b2, b3⟩ := Y2.out y hlt2
                have KW := Lib.hid (fun w => KX.out y w hlt2)
                generalize X x y = V at *
                obtain ⟨N, hN⟩ : ∃ N, Y x (y + 1) = N := ⟨_, rfl⟩
                rw [hN] at b2 b3
                have HN := Lib.hid hN; clear hN
                generalize Y x y = T at *
                go_wp2_with fail
                refine (KW.out _).mono ?_
                rintro e v1 ⟨rfl, hv1⟩
                have HV1 := Lib.hid (HBS.out.trans (hv1.mono HBS.out.size)); clear hv1
                cases V with
                | true =>
                  have hN2 := Lib.hid (b2 rfl)
                  have hw0 : IntKind.i64.wrap (T + 1) = T + 1 := IntWalk.i64_in _ (by omega)
                  clear b2 b3
                  go_wp2
                  go_roundw
                  case rel => exact ⟨y + 1, by omega, by rw [HN.out, hN2.out], by go_num, HV1.out⟩
                  case measure => simp [intOf]; omega
                | false =>
                  have hN2 := Lib.hid (b3 rfl)
                  clear b2 b3
                  go_wp2
                  go_roundw
                  case rel => exact ⟨y + 1, by omega, by rw [HN.out, hN2.out], by go_num, HV1.out⟩
                  case measure => simp [intOf]; omega
              · obtain rfl : m = y := by omega
                rw [Y1.out]
                have HBT := Lib.hid (HBW.out.trans (HBS.out.mono HBW.out.size))
                clear Y0 Y1 Y2 KX
                go_wp2
                go_roundw
                case rel => exact ⟨x + 1, by omega, rfl, by go_num, HBT.out⟩
                case measure => simp [intOf]; omega
          · obtain rfl : m = x := by omega
            rw [L2.out]
            have HBT := Lib.hid (HU11.out.trans (HBW.out.mono HU11.out.size))
            clear L1 L2 L3 K4 HBW
            go_wp2
            go_ret
            exact ⟨by first | rfl | simp, HBT.out⟩
    | true =>
      obtain ⟨hcp, F, j1, j2, j3⟩ := I7.out rfl
      clear I7
      have J1 := Lib.hid j1; clear j1
      have J2 := Lib.hid j2; clear j2
      have J3 := Lib.hid j3; clear j3
      go_wp2_with fail
      refine (J1.out _ v1 SA7.out).mono ?_
      rintro e u9 ⟨vf, rfl, hr, hb9⟩
      have SF1 := Lib.hid hr.sl; clear hr SA7
      have HU9 : Hid (Below w.heap.size w u9) := Lib.hid (HU8.out.trans (hb9.mono HU8.out.size)); clear hb9
      go_wp2_with fail
      refine (J2.out _ vf SF1.out).mono ?_
      rintro e u10 ⟨rfl, hb10⟩
      have SF2 := Lib.hid (SF1.out.below hb10 (Nat.le_refl _)); clear SF1
      have HU10 : Hid (Below w.heap.size w u10) := Lib.hid (HU9.out.trans (hb10.mono HU9.out.size)); clear hb10
      go_wp2_with fail
      refine (J3.out _ vf SF2.out).mono ?_
      rintro e u11 ⟨rfl, hb11⟩
      clear SF2
      have HU11 : Hid (Below w.heap.size w u11) := Lib.hid (HU10.out.trans (hb11.mono HU10.out.size)); clear hb11
      cases c with
      | false =>
        go_wp2_with fail
        refine (drawCountWays_any a1 n1 c1 _ (H1.out.below HU11.out)).mono ?_
        rintro e u12 ⟨r, rfl, hb12⟩
        have HU12 : Hid (Below w.heap.size w u12) := Lib.hid (HU11.out.trans (hb12.mono HU11.out.size)); clear hb12
        obtain ⟨s, o2, k1, k2, k3⟩ := ask_CountW r
        have K1 := Lib.hid k1; clear k1
        have K2 := Lib.hid k2; clear k2
        have K3 := Lib.hid k3; clear k3
        go_wp2_with fail
        refine (K1.out _).mono ?_
        rintro e u13 ⟨rfl, hb13⟩
        have HU13 : Hid (Below w.heap.size w u13) := Lib.hid (HU12.out.trans (hb13.mono HU12.out.size)); clear hb13
        go_wp2_with fail
        refine (K2.out _).mono ?_
        rintro e u14 ⟨rfl, hb14⟩
        have HU14 : Hid (Below w.heap.size w u14) := Lib.hid (HU13.out.trans (hb14.mono HU13.out.size)); clear hb14
        cases o2 with
        | false =>
          go_wp2
          go_ret
          exact ⟨rfl, HU14.out⟩
        | true =>
          obtain ⟨m, X, S, Y, rfl, hm, l1, l2, k4, l3⟩ := K3.out rfl
          clear K3
          have L1 := Lib.hid l1; clear l1
          have L2 := Lib.hid l2; clear l2
          have L3 := Lib.hid l3; clear l3
          have K4 := Lib.hid k4; clear k4
          go_wp2_with fail
          go_loopw [29, 30] (fun va vx wr => ∃ x : Nat, x ≤ m ∧ va = .int .i64 (S x) ∧ vx = .int .i64 x ∧ Below u14.heap.size u14 wr) (fun _ vx _ => m - (intOf vx).toNat)
          case atStart => exact ⟨0, Nat.zero_le _, by rw [L1.out], rfl, Below.refl _ _⟩
          case round =>
            obtain ⟨x, hx, rfl, rfl, hbw⟩ := hrel
            obtain ⟨wo, rfl⟩ : ∃ z : World, z = wr := ⟨_, rfl⟩
            have HBW := Lib.hid hbw; clear hbw
            by_cases hlt : x < m
            · obtain ⟨y0, y1, y2⟩ := L3.out x hlt
              have Y0 := Lib.hid y0; clear y0
              have Y1 := Lib.hid y1; clear y1
              have Y2 := Lib.hid y2; clear y2
              have KX := Lib.hid (fun y w hy => K4.out x y w hlt hy)
              go_wp2_with fail
              go_loopw [29, 31] (fun va vy ws => ∃ y : Nat, y ≤ m ∧ va = .int .i64 (Y x y) ∧ vy = .int .i64 y ∧ Below wo.heap.size wo ws) (fun _ vy _ => m - (intOf vy).toNat)
              case atStart => exact ⟨0, Nat.zero_le _, by rw [Y0.out], rfl, Below.refl _ _⟩
              case round =>
                obtain ⟨y, hy, rfl, rfl, hbs⟩ := hrel
                have HBS := Lib.hid hbs; clear hbs
                by_cases hlt2 : y < m
                · obtain ⟨⟨b0, b1⟩, b2, b3⟩ := Y2.out y hlt2
                  have KW := Lib.hid (fun w => KX.out y w hlt2)
                  generalize X x y = V at *
                  obtain ⟨N, hN⟩ : ∃ N, Y x (y + 1) = N := ⟨_, rfl⟩
                  rw [hN] at b2 b3
                  have HN := Lib.hid hN; clear hN
                  generalize Y x y = T at *
                  go_wp2_with fail
                  refine (KW.out _).mono ?_
                  rintro e v1 ⟨rfl, hv1⟩
                  have HV1 := Lib.hid (HBS.out.trans (hv1.mono HBS.out.size)); clear hv1
                  cases V with
                  | true =>
                    have hN2 := Lib.hid (b2 rfl)
                    have hw0 : IntKind.i64.wrap (T + 1) = T + 1 := IntWalk.i64_in _ (by omega)
                    clear b2 b3
                    go_wp2
                    go_roundw
                    case rel => exact ⟨y + 1, by omega, by rw [HN.out, hN2.out], by go_num, HV1.out⟩
                    case measure => simp [intOf]; omega
                  | false =>
                    have hN2 := Lib.hid (b3 rfl)
                    clear b2 b3
                    go_wp2
                    go_roundw
                    case rel => exact ⟨y + 1, by omega, by rw [HN.out, hN2.out], by go_num, HV1.out⟩
                    case measure => simp [intOf]; omega
                · obtain rfl : m = y := by omega
                  rw [Y1.out]
                  have HBT := Lib.hid (HBW.out.trans (HBS.out.mono HBW.out.size))
                  clear Y0 Y1 Y2 KX
                  go_wp2
                  go_roundw
                  case rel => exact ⟨x + 1, by omega, rfl, by go_num, HBT.out⟩
                  case measure => simp [intOf]; omega
            · obtain rfl : m = x := by omega
              rw [L2.out]
              have HBT := Lib.hid (HU14.out.trans (HBW.out.mono HU14.out.size))
              clear L1 L2 L3 K4 HBW
              go_wp2
              go_ret
              exact ⟨by first | rfl | simp, HBT.out⟩
      | true =>
        obtain rfl : p = true := hcp rfl
        go_wp2_with fail
        refine (drawCountWays_any a1 n1 c1 _ (H1.out.below HU11.out)).mono ?_
        rintro e u12 ⟨r, rfl, hb12⟩
        have HU12 : Hid (Below w.heap.size w u12) := Lib.hid (HU11.out.trans (hb12.mono HU11.out.size)); clear hb12
        obtain ⟨s, o2, k1, k2, k3⟩ := ask_CountW r
        have K1 := Lib.hid k1; clear k1
        have K2 := Lib.hid k2; clear k2
        have K3 := Lib.hid k3; clear k3
        go_wp2_with fail
        refine (K1.out _).mono ?_
        rintro e u13 ⟨rfl, hb13⟩
        have HU13 : Hid (Below w.heap.size w u13) := Lib.hid (HU12.out.trans (hb13.mono HU12.out.size)); clear hb13
        go_wp2_with fail
        refine (K2.out _).mono ?_
        rintro e u14 ⟨rfl, hb14⟩
        have HU14 : Hid (Below w.heap.size w u14) := Lib.hid (HU13.out.trans (hb14.mono HU13.out.size)); clear hb14
        cases o2 with
        | false =>
          go_wp2
          go_ret
          exact ⟨rfl, HU14.out⟩
        | true =>
          obtain ⟨m, X, S, Y, rfl, hm, l1, l2, k4, l3⟩ := K3.out rfl
          clear K3
          have L1 := Lib.hid l1; clear l1
          have L2 := Lib.hid l2; clear l2
          have L3 := Lib.hid l3; clear l3
          have K4 := Lib.hid k4; clear k4
          go_wp2_with fail
          go_loopw [29, 30] (fun va vx wr => ∃ x : Nat, x ≤ m ∧ va = .int .i64 (S x) ∧ vx = .int .i64 x ∧ Below u14.heap.size u14 wr) (fun _ vx _ => m - (intOf vx).toNat)
          case atStart => exact ⟨0, Nat.zero_le _, by rw [L1.out], rfl, Below.refl _ _⟩
          case round =>
            obtain ⟨x, hx, rfl, rfl, hbw⟩ := hrel
            obtain ⟨wo, rfl⟩ : ∃ z : World, z = wr := ⟨_, rfl⟩
            have HBW := Lib.hid hbw; clear hbw
            by_cases hlt : x < m
            · obtain ⟨y0, y1, y2⟩ := L3.out x hlt
              have Y0 := Lib.hid y0; clear y0
              have Y1 := Lib.hid y1; clear y1
              have Y2 := Lib.hid y2; clear y2
              have KX := Lib.hid (fun y w hy => K4.out x y w hlt hy)
              go_wp2_with fail
              go_loopw [29, 31] (fun va vy ws => ∃ y : Nat, y ≤ m ∧ va = .int .i64 (Y x y) ∧ vy = .int .i64 y ∧ Below wo.heap.size wo ws) (fun _ vy _ => m - (intOf vy).toNat)
              case atStart => exact ⟨0, Nat.zero_le _, by rw [Y0.out], rfl, Below.refl _ _⟩
              case round =>
                obtain ⟨y, hy, rfl, rfl, hbs⟩ := hrel
                have HBS := Lib.hid hbs; clear hbs
                by_cases hlt2 : y < m
                · obtain ⟨⟨b0, b1⟩, b2, b3⟩ := Y2.out y hlt2
                  have KW := Lib.hid (fun w => KX.out y w hlt2)
                  generalize X x y = V at *
                  obtain ⟨N, hN⟩ : ∃ N, Y x (y + 1) = N := ⟨_, rfl⟩
                  rw [hN] at b2 b3
                  have HN := Lib.hid hN; clear hN
                  generalize Y x y = T at *
                  go_wp2_with fail
                  refine (KW.out _).mono ?_
                  rintro e v1 ⟨rfl, hv1⟩
                  have HV1 := Lib.hid (HBS.out.trans (hv1.mono HBS.out.size)); clear hv1
                  cases V with
                  | true =>
                    have hN2 := Lib.hid (b2 rfl)
                    have hw0 : IntKind.i64.wrap (T + 1) = T + 1 := IntWalk.i64_in _ (by omega)
                    clear b2 b3
                    go_wp2
                    go_roundw
                    case rel => exact ⟨y + 1, by omega, by rw [HN.out, hN2.out], by go_num, HV1.out⟩
                    case measure => simp [intOf]; omega
                  | false =>
                    have hN2 := Lib.hid (b3 rfl)
                    clear b2 b3
                    go_wp2
                    go_roundw
                    case rel => exact ⟨y + 1, by omega, by rw [HN.out, hN2.out], by go_num, HV1.out⟩
                    case measure => simp [intOf]; omega
                · obtain rfl : m = y := by omega
                  rw [Y1.out]
                  have HBT := Lib.hid (HBW.out.trans (HBS.out.mono HBW.out.size))
                  clear Y0 Y1 Y2 KX
                  go_wp2
                  go_roundw
                  case rel => exact ⟨x + 1, by omega, rfl, by go_num, HBT.out⟩
                  case measure => simp [intOf]; omega
            · obtain rfl : m = x := by omega
              rw [L2.out]
              have HBT := Lib.hid (HU14.out.trans (HBW.out.mono HU14.out.size))
              clear L1 L2 L3 K4 HBW
              go_wp2
              go_ret
              exact ⟨by first | rfl | simp, HBT.out⟩
  · have HBG := Lib.hid (big_yes a0 a1 n0 c0 n1 c1 w hbg)
    clear h0 h1 hbg
    go_enter Tryz.func3, Tryz.ntmps3
    go_wp2_with fail
    refine HBG.out.mono ?_
    rintro e _ ⟨rfl, rfl⟩
    go_wp2
    go_ret
    exact ⟨rfl, Below.refl _ _⟩
end Go.Proofs.YtimpgbifnijkkabGreat
