/- CommonFactor and HasNoSquare, of both, by contracts; the walks of their laws. -/
import Derived.Test.YtlhcokblbkiafabTT
import Derived.Deep.RegionHeld3
namespace Go.Proofs.Ytlhcokblbkiafab
open Go.RowKit
/-- With the last coefficient 1, up to a place. -/
def mni (q : Int) (n : Nat) (f : Nat → Int) (i : Nat) : Nat → Int := fun j => if j < i then mno q n f j else f j
theorem mni_zero (q : Int) (n : Nat) (f : Nat → Int) : mni q n f 0 = f := funext fun _ => if_neg (Nat.not_lt_zero _)
theorem mni_at (q : Int) (n : Nat) (f : Nat → Int) (i : Nat) : mni q n f i i = f i := if_neg (Nat.lt_irrefl _)
theorem mni_succ (q : Int) (n : Nat) (f : Nat → Int) (i : Nat) : mni q n f (i + 1) = upd (mni q n f i) i (mno q n f i) := by
  funext j
  by_cases e : j = i
  · subst e
    rw [upd_at]
    exact if_pos (Nat.lt_succ_self _)
  · rw [upd_ne _ _ _ _ e]
    unfold mni
    by_cases h : j < i
    · rw [if_pos h, if_pos (by omega)]
    · rw [if_neg h, if_neg (by omega)]
theorem mni_all (q : Int) (n : Nat) (f : Nat → Int) : fl (mni q n f n) n = fl (mno q n f) n := fl_congr fun _ hi => if_pos hi
set_option maxRecDepth 100000 in
set_option maxHeartbeats 4000000 in
/-- spec.ctCommon. -/
theorem ctCommon_any (m : Nat) (v1 v2 : Value) (l g : List Int) (w : World) (h : isSz (m : Int) = true) (hv1 : Sl w v1 l) (hv2 : Sl w v2 g) (hl : PG (m : Int) l) (hg : PG (m : Int) g) :
    Calls Try.prog 27 #[.int .i64 m, v1, v2] w fun e w' => ∃ v', e = .returned v' ∧ Row w' w.heap.size v' (cmf m l g) ∧ Below w.heap.size w w' := by
  have hq := isSz_le (m : Int) h
  have HREM := Lib.hid (fun u1 u2 L1 L2 w' (h1 : Sl w' u1 L1) (h2 : Sl w' u2 L2) (p1 : PG (m : Int) L1) (p2 : PG (m : Int) L2) (h0 : 0 < L2.length) => ctRest_any m u1 u2 L1 L2 w' h h1 h2 p1 p2 h0)
  have HGO : Hid (∀ c L1 L2, PG (m : Int) L1 → PG (m : Int) L2 → 0 < L2.length → L2.length ≤ c → ∃ c', (remL m L1 L2).length ≤ c' ∧ gcl m c L1 L2 = gcl m c' L2 (remL m L1 L2)) := Lib.hid fun c L1 L2 p1 p2 h0 hc => gcl_go h p1 p2 h0 hc
  have HRP : Hid (∀ L1 L2, PG (m : Int) L1 → PG (m : Int) L2 → 0 < L2.length → PG (m : Int) (remL m L1 L2) ∧ (remL m L1 L2).length < L2.length) := Lib.hid fun L1 L2 p1 p2 h0 => remL_pg h p1 p2 h0
  have HEND : Hid (∀ c L1 L2, L2.length = 0 → gcl m c L1 L2 = L1) := Lib.hid fun c L1 L2 h0 => gcl_end h0
  have HOWN := Lib.hid (fun u L w' (h1 : Sl w' u L) (h2 : L.length ≤ 1000) => l1Own_sl u L w' h1 h2)
  have HINV : Hid (∀ y, El (m : Int) y → ∀ w, Calls Try.prog 55 #[.int .i64 m, .int .i64 y] w fun e w' => e = .returned (.int .i64 (invF m y)) ∧ Below w.heap.size w w') := Lib.hid fun y hy w => fdInverse_any (m : Int) y w h hy.1 hy.2
  have HTM : Hid (∀ (f : Nat → Int) n, (∀ i, El (m : Int) (f i)) → ∀ i w, Calls Try.prog 56 #[.int .i64 m, .int .i64 (f i), .int .i64 (invF m (f (n - 1)))] w fun e w' => e = .returned (.int .i64 (mno m n f i)) ∧ Below w.heap.size w w') := Lib.hid fun f n hf i w => by
    have := fdTimes_any (m : Int) (f i) (invF m (f (n - 1))) w h (hf i).1 (hf i).2 ((hf _).inv' h).1 ((hf _).inv' h).2
    rw [mul_comm' h (hf i) ((hf _).inv' h)] at this
    exact this
  have HN0 : Hid (∀ f n, mni m n f 0 = f) := Lib.hid fun f n => mni_zero (m : Int) n f
  have HNA : Hid (∀ f n i, mni m n f i i = f i) := Lib.hid fun f n i => mni_at (m : Int) n f i
  have HNS : Hid (∀ f n i, mni m n f (i + 1) = upd (mni m n f i) i (mno m n f i)) := Lib.hid fun f n i => mni_succ (m : Int) n f i
  have HNN : Hid (∀ f n, fl (mni m n f n) n = fl (mno m n f) n) := Lib.hid fun f n => mni_all (m : Int) n f
  have HST : Hid (∃ c, g.length ≤ c ∧ gcl m c l g = gcl m g.length l g) := Lib.hid ⟨_, Nat.le_refl _, rfl⟩
  have HRES : Hid (cmf m l g = fl (mno m (gcl m g.length l g).length (cfs (gcl m g.length l g))) (gcl m g.length l g).length) := Lib.hid rfl
  have HL := Lib.hid hl
  have HG := Lib.hid hg
  have HV1 := Lib.hid hv1
  have HV2 := Lib.hid hv2
  clear h hl hg hv1 hv2
  generalize cmf (m : Int) l g = CM at *
  generalize gcl (m : Int) g.length l g = R at *
  generalize gcl (m : Int) = GC at *
  generalize mno (m : Int) = MO at *
  generalize mni (m : Int) = MI at *
  generalize invF (m : Int) = IV at *
  go_enter Try.func27, Try.ntmps27
  go_wp2_with fail
  go_loopw [1, 2] (fun u1 u2 wr => ∃ L1 L2, Sl wr u1 L1 ∧ Sl wr u2 L2 ∧ PG (m : Int) L1 ∧ PG (m : Int) L2 ∧ (∃ c, L2.length ≤ c ∧ GC c L1 L2 = R) ∧ lenOf u2 = L2.length ∧ Below w.heap.size w wr) (fun _ u2 _ => lenOf u2)
  case atStart =>
    obtain ⟨a2, c2, h2⟩ := HV2.out.form
    exact ⟨l, g, HV1.out, HV2.out, HL.out, HG.out, HST.out, by rw [h2]; rfl, Below.refl _ _⟩
  case round =>
    obtain ⟨L1, L2, s1, s2, p1, p2, ⟨c, hc, hres⟩, hlen, hb⟩ := hrel
    obtain ⟨a1, c1, rfl⟩ := s1.form
    obtain ⟨a2, c2, rfl⟩ := s2.form
    have hzb := hb.size
    have hle1 := p1.le
    have hle2 := p2.le
    have HS1 := Lib.hid s1
    have HS2 := Lib.hid s2
    have HP1 := Lib.hid p1
    have HP2 := Lib.hid p2
    have HB := Lib.hid hb
    clear s1 s2 hb hlen
    by_cases h0 : 0 < L2.length
    · obtain ⟨c', hc', hgo⟩ := HGO.out c L1 L2 p1 p2 h0 hc
      obtain ⟨rp, rlt⟩ := HRP.out L1 L2 p1 p2 h0
      have HR := Lib.hid (HREM.out _ _ L1 L2 wr HS1.out HS2.out p1 p2 h0)
      have HE : Hid (GC c' L2 (remL m L1 L2) = R) := Lib.hid (by rw [← hgo]; exact hres)
      have HC' := Lib.hid hc'
      have HRPP := Lib.hid rp
      have hpos : (0 : Int) < (L2.length : Int) := by omega
      clear hgo hres hc hc' rp p1 p2
      generalize remL (m : Int) L1 L2 = r at *
      go_wp2_with fail
      refine HR.out.mono ?_
      rintro e w3 ⟨v3, rfl, hr3, hb3⟩
      have hl3 := hr3.len
      have HS3 := Lib.hid hr3.sl
      have HS2' := Lib.hid (HS2.out.below hb3 (Nat.le_refl _))
      have HB3 : Hid (Below w.heap.size w w3) := Lib.hid (HB.out.trans (hb3.mono hzb))
      clear hr3 hb3
      go_wp2
      go_roundw
      case rel => exact ⟨L2, r, HS2'.out, HS3.out, HP2.out, HRPP.out, ⟨c', HC'.out, HE.out⟩, hl3, HB3.out⟩
      case measure => rw [hl3]; simp only [lenOf]; omega
    · have hz2 : L2.length = 0 := by omega
      have e1 := HEND.out c L1 L2 hz2
      rw [hres] at e1
      have HOW := Lib.hid (HOWN.out _ L1 wr HS1.out (by omega))
      have HRE := Lib.hid e1
      clear hres e1 hc p1 p2
      rw [hz2]
      go_wp2_with fail
      refine HOW.out.mono ?_
      rintro e w3 ⟨v3, rfl, hr3, hb3⟩
      have HR3 := Lib.hid hr3
      have HS1' := Lib.hid (HS1.out.below hb3 (Nat.le_refl _))
      have HB3 : Hid (Below w.heap.size w w3) := Lib.hid (HB.out.trans (hb3.mono hzb))
      have hz3 := hb3.size
      clear hr3 hb3
      by_cases hL : 0 < L1.length
      · obtain ⟨b, off, cp, hv, hbl, hcell⟩ := HS1'.out.open rfl hL
        injection hv with hv1 hv2 hv3
        subst hv1 hv3
        have hce := hcell (L1.length - 1) (by omega)
        have HTMf := Lib.hid (HTM.out (cfs L1) L1.length HP1.out.el)
        have HIVf := Lib.hid (HINV.out (cfs L1 (L1.length - 1)) (HP1.out.el _))
        have HN0f := Lib.hid (HN0.out (cfs L1) L1.length)
        have HNAf := Lib.hid (HNA.out (cfs L1) L1.length)
        have HNSf := Lib.hid (HNS.out (cfs L1) L1.length)
        have HNNf := Lib.hid (HNN.out (cfs L1) L1.length)
        have HFL : Hid (L1 = fl (cfs L1) L1.length) := Lib.hid (fl_of L1)
        have HRESf : Hid (CM = fl (MO L1.length (cfs L1)) L1.length) := Lib.hid (by rw [HRES.out, HRE.out])
        change _ = some (Value.int .i64 (cfs L1 (L1.length - 1))) at hce
        rw [HFL.out] at HR3
        clear hcell
        generalize cfs L1 = F at *
        generalize L1.length = n at *
        generalize IV (F (n - 1)) = iv at *
        generalize F (n - 1) = y at *
        have hpos : (0 : Int) < (n : Int) := by omega
        have hn1 : ((n : Int) - 1) = ((n - 1 : Nat) : Int) := by omega
        have hwn : IntKind.i64.wrap ((n : Int) - 1) = ((n - 1 : Nat) : Int) := by rw [hn1]; exact IntWalk.i64_in _ (by omega)
        have hn2 : n - 1 < n := by omega
        clear hn1
        generalize n - 1 = d at *
        go_wp2_with fail
        refine (HIVf.out _).mono ?_
        rintro e w4 ⟨rfl, hb4⟩
        have hz4 := hb4.size
        have HR4 := Lib.hid (HR3.out.below hb4)
        have HB4 : Hid (Below w.heap.size w w4) := Lib.hid (HB3.out.trans (hb4.mono (by omega)))
        clear hb4 hce
        obtain ⟨g4, cp4, rfl, hg4, hg5⟩ := HR4.out.form (by rw [fl_len]; exact hL)
        rw [fl_len] at HR4 ⊢
        go_wp2_with fail
        go_loopw [33] (fun vi ws => ∃ i : Nat, i ≤ n ∧ vi = .int .i64 i ∧ Row ws wr.heap.size (.slice (some ⟨g4, 0, none⟩) n cp4) (fl (MI n F i) n) ∧ g4 < ws.heap.size ∧ Below w.heap.size w ws) (fun vi _ => n - (intOf vi).toNat)
        case atStart => exact ⟨0, Nat.zero_le _, rfl, by rw [HN0f.out]; exact HR4.out, hg5, HB4.out⟩
        case round =>
          obtain ⟨i, hin, rfl, hr, hgl, hb⟩ := hrel
          have hzs := hb.size
          by_cases hi : i < n
          · have hci := Row.cell (l := fl (MI n F i) n) (cap := cp4) (by rw [fl_len]; exact hr) i (by rw [fl_len]; exact hi)
            rw [fl_get _ _ _ hi, HNAf.out i] at hci
            have hfz := hr.frozen (by rw [fl_len]) i
            have HTMi := Lib.hid (HTMf.out i)
            have HNSi := Lib.hid (HNSf.out i)
            have HRR := Lib.hid hr
            have HBB := Lib.hid hb
            clear hr hb
            generalize MO n F i = x at *
            generalize F i = z at *
            go_wp2_with fail
            refine (HTMi.out _).mono ?_
            rintro e w6 ⟨rfl, hb6⟩
            have hz6 := hb6.size
            have hf6 := (HRR.out.below hb6).frozen (by rw [fl_len]) i
            have hc6 := (hb6.cell (p := ⟨g4, i, none⟩) hgl).trans hci
            have hr7 := (HRR.out.below hb6).store (by rw [fl_len]) i x
            rw [fl_set, ← HNSi.out] at hr7
            have HR7 := Lib.hid hr7
            have HB7 : Hid (Below w.heap.size w (w6.setCell ⟨g4, i, none⟩ (.int .i64 x))) := Lib.hid (Below.setCell (HBB.out.trans (hb6.mono hzs)) (by show w.heap.size ≤ g4; omega) _)
            have hg6 : g4 < w6.heap.size := by omega
            clear hr7 hb6 hci hfz
            go_wp2
            go_roundw
            case rel => exact ⟨i + 1, by omega, by go_num, HR7.out, by simp; omega, HB7.out⟩
            case measure => simp [intOf]; omega
          · obtain rfl : n = i := by omega
            have hr' := hr
            rw [HNNf.out] at hr'
            have HRR := Lib.hid hr'
            have HBB := Lib.hid hb
            clear hr hb hr'
            go_wp2
            go_ret
            exact ⟨_, rfl, by rw [HRESf.out]; exact HRR.out.mono hzb, HBB.out⟩
      · have hL0 : L1.length = 0 := by omega
        have HCM : Hid (CM = []) := Lib.hid (by rw [HRES.out, HRE.out, hL0]; rfl)
        have e0 : L1 = [] := List.eq_nil_of_length_eq_zero hL0
        have hr3 := HR3.out
        rw [e0] at hr3
        have HR3' := Lib.hid hr3
        clear hr3
        have hno : ¬ ((0 : Int) < (L1.length : Int)) := by omega
        obtain ⟨a3, c3, rfl⟩ := HR3'.out.sl.empty
        rw [hL0]
        clear e0
        clear hno hL
        go_wp2_with fail
        go_ret
        exact ⟨_, rfl, by rw [HCM.out]; exact HR3'.out.mono hzb, HB3.out⟩
set_option maxRecDepth 100000 in
set_option maxHeartbeats 4000000 in
theorem spec_CommonFactor_no (q : Int) (v1 v2 : Value) (l1 l2 : List Int) (w : World) (hv1 : Sl w v1 l1) (hv2 : Sl w v2 l2) (hl1 : l1.length ≤ 1048576) (hl2 : l2.length ≤ 1048576) (hn : two2 q l1 l2 = false) :
    Calls Try.prog 14 #[.int .i64 q, v1, v2] w fun e w' => e = .returned (.tuple #[.slice none 0 0, .bool false]) ∧ Below w.heap.size w w' := by
  have HP1 := Lib.hid (plGood_any q v1 l1 w hv1 hl1)
  have HP2 := Lib.hid (fun w' (hb : Below w.heap.size w w') => plGood_any q v2 l2 w' (hv2.below hb (Nat.le_refl _)) hl2)
  obtain ⟨a2, c2, hf⟩ := hv2.form
  subst hf
  unfold two2 at hn
  clear hv1 hv2 hl1 hl2
  cases h1 : isSz q && good q l1 with
  | false =>
    rw [h1] at HP1
    clear hn h1 HP2
    go_enter Try.func14, Try.ntmps14
    go_wp2_with fail
    refine HP1.out.mono ?_
    rintro e w1 ⟨rfl, hb1⟩
    go_wp2
    go_ret2
    exact ⟨rfl, hb1⟩
  | true =>
    rw [h1] at HP1 hn
    cases h2 : isSz q && good q l2 with
    | false =>
      rw [h2] at HP2
      clear hn h1 h2
      go_enter Try.func14, Try.ntmps14
      go_wp2_with fail
      refine HP1.out.mono ?_
      rintro e w1 ⟨rfl, hb1⟩
      have hz1 := hb1.size
      have HB1 := Lib.hid hb1; clear hb1
      go_wp2_with fail
      refine (HP2.out _ HB1.out).mono ?_
      rintro e w2 ⟨rfl, hb2⟩
      have HB2 : Hid (Below w.heap.size w w2) := Lib.hid (HB1.out.trans (hb2.mono hz1)); clear hb2
      go_wp2
      go_ret2
      exact ⟨rfl, HB2.out⟩
    | true =>
      rw [h2] at hn
      cases hn
set_option maxRecDepth 100000 in
set_option maxHeartbeats 4000000 in
theorem spec_CommonFactor_yes (m : Nat) (v1 v2 : Value) (l1 l2 : List Int) (w : World) (h : isSz (m : Int) = true) (hv1 : Sl w v1 l1) (hv2 : Sl w v2 l2) (hg1 : good (m : Int) l1 = true) (hg2 : good (m : Int) l2 = true) :
    Calls Try.prog 14 #[.int .i64 m, v1, v2] w fun e w' => ∃ v', e = .returned (.tuple #[v', .bool true]) ∧ Row w' w.heap.size v' (cmf m l1 l2) ∧ Below w.heap.size w w' := by
  have hq := isSz_le (m : Int) h
  have hlen1 := (good_parts hg1).1
  have hlen2 := (good_parts hg2).1
  have hp1 := plGood_any (m : Int) v1 l1 w hv1 (by omega)
  rw [h, hg1] at hp1
  have HP1 := Lib.hid hp1
  have HP2 : Hid (∀ w', Below w.heap.size w w' → Calls Try.prog 22 #[.int .i64 m, v2] w' fun e w'' => e = .returned (.bool true) ∧ Below w'.heap.size w' w'') := Lib.hid fun w' hb => by
    have := plGood_any (m : Int) v2 l2 w' (hv2.below hb (Nat.le_refl _)) (by omega)
    rw [h, hg2] at this
    exact this
  have HR := Lib.hid (fun w' (hb : Below w.heap.size w w') => ctCommon_any m v1 v2 l1 l2 w' h (hv1.below hb (Nat.le_refl _)) (hv2.below hb (Nat.le_refl _)) (pg_good h hg1) (pg_good h hg2))
  obtain ⟨a2, c2, hf⟩ := hv2.form
  subst hf
  clear hp1 hv1 hv2 hg1 hg2 h
  generalize l2.length = k2 at *
  generalize cmf m l1 l2 = r at *
  go_enter Try.func14, Try.ntmps14
  go_wp2_with fail
  refine HP1.out.mono ?_
  rintro e w1 ⟨rfl, hb1⟩
  have hz1 := hb1.size
  have HB1 := Lib.hid hb1; clear hb1
  go_wp2_with fail
  refine (HP2.out _ HB1.out).mono ?_
  rintro e w2 ⟨rfl, hb2⟩
  have HB2 : Hid (Below w.heap.size w w2) := Lib.hid (HB1.out.trans (hb2.mono hz1)); clear hb2
  have hz2 := HB2.out.size
  go_wp2_with fail
  refine (HR.out _ HB2.out).mono ?_
  rintro e w3 ⟨v3, rfl, hr3, hb3⟩
  have HR3 := Lib.hid (hr3.mono hz2)
  have HB3 : Hid (Below w.heap.size w w3) := Lib.hid (HB2.out.trans (hb3.mono hz2)); clear hb3 hr3
  go_wp2
  go_ret2
  exact ⟨_, rfl, HR3.out, HB3.out⟩
theorem put4_here {w : World} {b : Nat} {x0 x1 x2 x3 : Value} (q : Int) (v : Value) (h : w.heap[b]? = some (.cells #[x0, x1, x2, x3] 40 (0, 0))) : (put4 w b q v).heap[b]? = some (pblk q v) := by
  unfold put4
  have e0 := heap_setCell_same w b 0 _ _ (.int .i64 q) h
  have e1 := heap_setCell_same _ b 1 _ _ (.int .i64 (pr q)) e0
  have e2 := heap_setCell_same _ b 2 _ _ (.int .i64 (pl q)) e1
  have e3 := heap_setCell_same _ b 3 _ _ v e2
  exact e3
/-- The memory of commonFactor. -/
structure GCm (w0 wr : World) (m : Nat) (L1 : List Int) (g1 c1 : Nat) (L2 : List Int) (g2 c2 : Nat) : Prop where
  hp : wr.heap[w0.heap.size]? = some (pblk (m : Int) (.slice (some ⟨g1, 0, none⟩) L1.length c1))
  ho : wr.heap[w0.heap.size + 1]? = some (pblk (m : Int) (.slice (some ⟨g2, 0, none⟩) L2.length c2))
  hr : wr.heap[w0.heap.size + 2]? = some pzblk
  e1 : Els wr g1 (m : Int) (cfs L1) L1.length
  e2 : Els wr g2 (m : Int) (cfs L2) L2.length
  l1 : g1 < wr.heap.size
  l2 : g2 < wr.heap.size
  n1 : g1 < w0.heap.size ∨ w0.heap.size + 2 < g1
  n2 : g2 < w0.heap.size ∨ w0.heap.size + 2 < g2
  bel : Below w0.heap.size w0 wr
theorem GCm.lt {w0 wr : World} {m g1 c1 g2 c2 : Nat} {L1 L2 : List Int} (h : GCm w0 wr m L1 g1 c1 L2 g2 c2) : w0.heap.size + 2 < wr.heap.size := (Array.getElem?_eq_some_iff.1 h.hr).1
theorem GCm.below {w0 wr w' : World} {m g1 c1 g2 c2 B : Nat} {L1 L2 : List Int} (h : GCm w0 wr m L1 g1 c1 L2 g2 c2) (hb : Below B wr w') (hB : wr.heap.size ≤ B) : GCm w0 w' m L1 g1 c1 L2 g2 c2 := by
  have h1 := h.l1
  have h2 := h.l2
  have h3 := h.bel.size
  have h4 := hb.size
  have h5 := h.lt
  exact ⟨(hb.block _ (by omega)).trans h.hp, (hb.block _ (by omega)).trans h.ho, (hb.block _ (by omega)).trans h.hr, h.e1.below hb (by omega), h.e2.below hb (by omega), by omega, by omega, h.n1, h.n2, h.bel.trans (hb.mono (by omega))⟩
theorem GCm.next {w0 wr w5 : World} {m g1 c1 g2 c2 g3 c3 B : Nat} {L1 L2 r : List Int} (h : GCm w0 wr m L1 g1 c1 L2 g2 c2) (hb : Below B wr w5) (hB : wr.heap.size ≤ B) (h3 : wr.heap.size ≤ g3) (h3' : g3 < w5.heap.size) (he : Els w5 g3 (m : Int) (cfs r) r.length) :
    GCm w0 (put4 (put4 w5 w0.heap.size (m : Int) (.slice (some ⟨g2, 0, none⟩) L2.length c2)) (w0.heap.size + 1) (m : Int) (.slice (some ⟨g3, 0, none⟩) r.length c3)) m L2 g2 c2 r g3 c3 := by
  have h5 := h.below hb hB
  have hlt := h.lt
  have n2 := h.n2
  have hoth : ∀ k, k ≠ w0.heap.size → k ≠ w0.heap.size + 1 → (put4 (put4 w5 w0.heap.size (m : Int) (.slice (some ⟨g2, 0, none⟩) L2.length c2)) (w0.heap.size + 1) (m : Int) (.slice (some ⟨g3, 0, none⟩) r.length c3)).heap[k]? = w5.heap[k]? := fun k h1 h2 => (put4_other _ _ _ _ _ h2).trans (put4_other _ _ _ _ _ h1)
  refine ⟨(put4_other _ _ _ _ _ (by omega)).trans (put4_here _ _ h5.hp), put4_here _ _ ((put4_other _ _ _ _ _ (by omega)).trans h5.ho), (hoth _ (by omega) (by omega)).trans h5.hr, h5.e2.same (hoth _ (by omega) (by omega)), he.same (hoth _ (by omega) (by omega)), by simpa using h5.l2, by simpa using h3', n2, .inr (by omega), put4_below (put4_below h5.bel _ (Nat.le_refl _) _ _) _ (by omega) _ _⟩
set_option maxRecDepth 100000 in
set_option maxHeartbeats 4000000 in
/-- impl.poly.commonFactor. -/
theorem commonFactorE (m g1 c1 g2 c2 : Nat) (l g : List Int) (w : World) (h : isSz (m : Int) = true) (hg1 : g1 < w.heap.size) (he1 : Els w g1 (m : Int) (cfs l) l.length) (hg2 : g2 < w.heap.size) (he2 : Els w g2 (m : Int) (cfs g) g.length) (hl : PG (m : Int) l) (hg : PG (m : Int) g) :
    Calls Try.prog 29 #[polyE (m : Int) (.slice (some ⟨g1, 0, none⟩) l.length c1), polyE (m : Int) (.slice (some ⟨g2, 0, none⟩) g.length c2)] w fun e w' => ∃ g' cap', e = .returned (polyE (m : Int) (.slice (some ⟨g', 0, none⟩) (cmf m l g).length cap')) ∧ g' < w'.heap.size ∧ Els w' g' (m : Int) (cfs (cmf m l g)) (cmf m l g).length ∧ Below w.heap.size w w' := by
  have hq := isSz_le (m : Int) h
  have HREM : Hid (∀ ga ca gb cb L1 L2 w', PG (m : Int) L1 → PG (m : Int) L2 → 0 < L2.length → ga < w'.heap.size → gb < w'.heap.size → Els w' ga (m : Int) (cfs L1) L1.length → Els w' gb (m : Int) (cfs L2) L2.length → Calls Try.prog 39 #[polyE (m : Int) (.slice (some ⟨ga, 0, none⟩) L1.length ca), polyE (m : Int) (.slice (some ⟨gb, 0, none⟩) L2.length cb)] w' fun e w'' => ∃ g' cap', e = .returned (polyE (m : Int) (.slice (some ⟨g', 0, none⟩) (remL m L1 L2).length cap')) ∧ w'.heap.size ≤ g' ∧ g' < w''.heap.size ∧ Els w'' g' (m : Int) (cfs (remL m L1 L2)) (remL m L1 L2).length ∧ Below w'.heap.size w' w'') := Lib.hid fun ga ca gb cb L1 L2 w' p1 p2 h0 la lb ea eb =>
    remainderE m L1.length L2.length ga ca gb cb (cfs L1) (cfs L2) w' h la ea p1.el (by have := p1.le; omega) lb eb p2.el h0 (by have := p2.le; omega) (pg_top p2 h0)
  have HGO : Hid (∀ c L1 L2, PG (m : Int) L1 → PG (m : Int) L2 → 0 < L2.length → L2.length ≤ c → ∃ c', (remL m L1 L2).length ≤ c' ∧ gcl m c L1 L2 = gcl m c' L2 (remL m L1 L2)) := Lib.hid fun c L1 L2 p1 p2 h0 hc => gcl_go h p1 p2 h0 hc
  have HRP : Hid (∀ L1 L2, PG (m : Int) L1 → PG (m : Int) L2 → 0 < L2.length → PG (m : Int) (remL m L1 L2) ∧ (remL m L1 L2).length < L2.length) := Lib.hid fun L1 L2 p1 p2 h0 => remL_pg h p1 p2 h0
  have HEND : Hid (∀ c L1 L2, L2.length = 0 → gcl m c L1 L2 = L1) := Lib.hid fun c L1 L2 h0 => gcl_end h0
  have HZ : Hid (∀ gg n cp w, Calls Try.prog 38 #[polyE (m : Int) (.slice (some ⟨gg, 0, none⟩) n cp)] w fun e w' => e = .returned (.bool (decide (n = 0))) ∧ Below w.heap.size w w') := Lib.hid fun gg n cp w => isZeroP (m : Int) gg n cp w
  have HMO : Hid (∀ L ga ca w', PG (m : Int) L → 0 < L.length → ga < w'.heap.size → Els w' ga (m : Int) (cfs L) L.length → Calls Try.prog 57 #[polyE (m : Int) (.slice (some ⟨ga, 0, none⟩) L.length ca)] w' fun e w'' => ∃ g' cap', e = .returned (polyE (m : Int) (.slice (some ⟨g', 0, none⟩) L.length cap')) ∧ w'.heap.size ≤ g' ∧ g' < w''.heap.size ∧ Els w'' g' (m : Int) (mno m L.length (cfs L)) L.length ∧ Below w'.heap.size w' w'') := Lib.hid fun L ga ca w' p1 h0 la ea => monicE m L.length ga ca (cfs L) w' h la ea p1.el h0 (by have := p1.le; omega) (pg_top p1 h0)
  have HST : Hid (∃ c, g.length ≤ c ∧ gcl m c l g = gcl m g.length l g) := Lib.hid ⟨_, Nat.le_refl _, rfl⟩
  have HRES : Hid (cmf m l g = fl (mno m (gcl m g.length l g).length (cfs (gcl m g.length l g))) (gcl m g.length l g).length) := Lib.hid rfl
  have HL := Lib.hid hl
  have HG := Lib.hid hg
  have hgc : GCm w (((w.alloc (pblk (m : Int) (.slice (some ⟨g1, 0, none⟩) l.length c1))).alloc (pblk (m : Int) (.slice (some ⟨g2, 0, none⟩) g.length c2))).alloc pzblk) m l g1 c1 g g2 c2 := by
    obtain ⟨t0, t1, t2⟩ := three w (pblk (m : Int) (.slice (some ⟨g1, 0, none⟩) l.length c1)) (pblk (m : Int) (.slice (some ⟨g2, 0, none⟩) g.length c2)) pzblk
    have hb : Below w.heap.size w (((w.alloc (pblk (m : Int) (.slice (some ⟨g1, 0, none⟩) l.length c1))).alloc (pblk (m : Int) (.slice (some ⟨g2, 0, none⟩) g.length c2))).alloc pzblk) := by (repeat' (first | (with_reducible assumption) | (with_reducible exact Below.refl _ _) | (with_reducible refine below_drewN ?_ _) | (with_reducible refine Below.drew ?_) | (with_reducible refine Below.alloc ?_ ?_ _) | (with_reducible refine Below.setCell ?_ ?_ _) | (with_reducible refine Below.trans ?_ (Below.mono (by assumption) ?_)) | (with_reducible exact Nat.le_refl _) | (with_reducible assumption) | omega | (simp; omega) | (simp; done)))
    exact ⟨t0, t1, t2, he1.below hb hg1, he2.below hb hg2, by simp; omega, by simp; omega, .inl hg1, .inl hg2, hb⟩
  have HGC := Lib.hid hgc
  clear h hl hg he1 he2 hgc
  generalize cmf (m : Int) l g = CM at *
  generalize gcl (m : Int) g.length l g = R at *
  generalize gcl (m : Int) = GC at *
  generalize mno (m : Int) = MO at *
  go_enter Try.func29, Try.ntmps29
  go_wp2_with fail
  go_loopw [7] (fun _ wr => ∃ L1 ga ca L2 gb cb, GCm w wr m L1 ga ca L2 gb cb ∧ PG (m : Int) L1 ∧ PG (m : Int) L2 ∧ (∃ c, L2.length ≤ c ∧ GC c L1 L2 = R)) (fun _ wr => lenOf ((wr.cell? ⟨w.heap.size + 1, 3, none⟩).getD undef))
  case atStart => exact ⟨l, g1, c1, g, g2, c2, HGC.out, HL.out, HG.out, HST.out⟩
  case round =>
    obtain ⟨L1, ga, ca, L2, gb, cb, hgc, p1, p2, ⟨c, hc, hres⟩⟩ := hrel
    obtain ⟨x0, x1, x2, x3, xf, xl⟩ := cells4 hgc.hp
    obtain ⟨y0, y1, y2, y3, yf, yl⟩ := cells4 hgc.ho
    have hzb := hgc.bel.size
    have hle1 := p1.le
    have hle2 := p2.le
    have HGC' := Lib.hid hgc
    have HP1 := Lib.hid p1
    have HP2 := Lib.hid p2
    have HZb := Lib.hid (HZ.out gb L2.length cb)
    by_cases h0 : 0 < L2.length
    · rw [decide_eq_false (show ¬ L2.length = 0 by omega)] at HZb
      obtain ⟨c', hc', hgo⟩ := HGO.out c L1 L2 p1 p2 h0 hc
      obtain ⟨rp, rlt⟩ := HRP.out L1 L2 p1 p2 h0
      have HR := Lib.hid (fun w' hla hlb hea heb => HREM.out ga ca gb cb L1 L2 w' p1 p2 h0 hla hlb hea heb)
      have HE : Hid (GC c' L2 (remL m L1 L2) = R) := Lib.hid (by rw [← hgo]; exact hres)
      have HC' := Lib.hid hc'
      have HRPP := Lib.hid rp
      clear hgo hres hc hc' rp p1 p2 hgc
      generalize remL (m : Int) L1 L2 = r at *
      go_wp2_with fail
      refine (HZb.out _).mono ?_
      rintro e w3 ⟨rfl, hb3⟩
      have hgc3 := HGC'.out.below hb3 (Nat.le_refl _)
      have hz3 := hb3.size
      clear x0 x1 x2 x3 xf y0 y1 y2 y3 yf hb3
      obtain ⟨x0, x1, x2, x3, xf, xl3⟩ := cells4 hgc3.hp
      obtain ⟨y0, y1, y2, y3, yf, yl3⟩ := cells4 hgc3.ho
      have HGC3 := Lib.hid hgc3
      clear hgc3
      go_wp2_with fail
      go_region_with (go_at_call 39; refine (HR.out _ (by have := HGC3.out.l1; simpa using this) (by have := HGC3.out.l2; simpa using this) (HGC3.out.e1.below (B := w3.heap.size) (by (repeat' (first | (with_reducible assumption) | (with_reducible exact Below.refl _ _) | (with_reducible refine below_drewN ?_ _) | (with_reducible refine Below.drew ?_) | (with_reducible refine Below.alloc ?_ ?_ _) | (with_reducible refine Below.setCell ?_ ?_ _) | (with_reducible refine Below.trans ?_ (Below.mono (by assumption) ?_)) | (with_reducible exact Nat.le_refl _) | (with_reducible assumption) | omega | (simp; omega) | (simp; done)))) HGC3.out.l1) (HGC3.out.e2.below (B := w3.heap.size) (by (repeat' (first | (with_reducible assumption) | (with_reducible exact Below.refl _ _) | (with_reducible refine below_drewN ?_ _) | (with_reducible refine Below.drew ?_) | (with_reducible refine Below.alloc ?_ ?_ _) | (with_reducible refine Below.setCell ?_ ?_ _) | (with_reducible refine Below.trans ?_ (Below.mono (by assumption) ?_)) | (with_reducible exact Nat.le_refl _) | (with_reducible assumption) | omega | (simp; omega) | (simp; done)))) HGC3.out.l2)).mono ?_; rintro e w5 ⟨g5, cp5, rfl, hlo5, hg5, he5, hb5⟩; have HE5 := Lib.hid he5; clear he5; obtain ⟨hc5, hf5⟩ := bcell hb5; (try simp only [World.size_drew] at hc5 hf5); have hz5 := hb5.size; (try simp at hz5); have HB5 := Lib.hid hb5; clear hb5; have l5 : w.heap.size < w5.heap.size := (by omega); have l5' : w.heap.size + 1 < w5.heap.size := (by omega))
      all_goals
        have hb5 := HB5.out
        have hnx := HGC3.out.next (c3 := cp5) (B := w3.heap.size) (by (repeat' (first | (with_reducible assumption) | (with_reducible exact Below.refl _ _) | (with_reducible refine below_drewN ?_ _) | (with_reducible refine Below.drew ?_) | (with_reducible refine Below.alloc ?_ ?_ _) | (with_reducible refine Below.setCell ?_ ?_ _) | (with_reducible refine Below.trans ?_ (Below.mono (by assumption) ?_)) | (with_reducible exact Nat.le_refl _) | (with_reducible assumption) | omega | (simp; omega) | (simp; done)))) (Nat.le_refl _) (by first | exact hlo5 | simpa using hlo5) hg5 HE5.out
        have hcl := (cells4 hnx.ho).2.2.2.1
        have hyl := (cells4 HGC'.out.ho).2.2.2.1
        have HNX := Lib.hid hnx
        clear hnx
        go_wp2
        go_roundw
        case rel => exact ⟨L2, gb, cb, r, g5, cp5, HNX.out, HP2.out, HRPP.out, ⟨c', HC'.out, HE.out⟩⟩
        case measure =>
          first
          | (rw [hcl, hyl]; simp only [Option.getD, lenOf]; omega)
          | (rw [show (_ : World).cell? ⟨w.heap.size + 1, 3, none⟩ = _ from hcl, hyl]; simp only [Option.getD, lenOf]; omega)
    · have hz2 : L2.length = 0 := by omega
      rw [decide_eq_true hz2] at HZb
      have e1 := HEND.out c L1 L2 hz2
      rw [hres] at e1
      have HRE := Lib.hid e1
      have HZa := Lib.hid (HZ.out ga L1.length ca)
      rw [hz2] at y3 HZb
      clear hres e1 hc p1 p2 hgc hz2 h0
      go_wp2_with fail
      refine (HZb.out _).mono ?_
      rintro e w3 ⟨rfl, hb3⟩
      have hgc3 := HGC'.out.below hb3 (Nat.le_refl _)
      clear x0 x1 x2 x3 xf y0 y1 y2 y3 yf hb3
      obtain ⟨x0, x1, x2, x3, xf, xl3⟩ := cells4 hgc3.hp
      have HGC3 := Lib.hid hgc3
      clear hgc3
      by_cases hL : 0 < L1.length
      · rw [decide_eq_false (show ¬ L1.length = 0 by omega)] at HZa
        go_wp2_with fail
        refine (HZa.out _).mono ?_
        rintro e w4 ⟨rfl, hb4⟩
        have hgc4 := HGC3.out.below hb4 (Nat.le_refl _)
        clear x0 x1 x2 x3 xf hb4
        obtain ⟨x0, x1, x2, x3, xf, xl4⟩ := cells4 hgc4.hp
        have HGC4 := Lib.hid hgc4
        clear hgc4
        go_wp2_with fail
        refine (HMO.out L1 ga ca _ HP1.out hL HGC4.out.l1 HGC4.out.e1).mono ?_
        rintro e w5 ⟨g5, cp5, rfl, hlo5, hg5, he5, hb5⟩
        have hgc5 := HGC4.out.below hb5 (Nat.le_refl _)
        obtain ⟨s0, s1, s2, s3, sf, sl⟩ := cells4 hgc5.hr
        have HE5 := Lib.hid he5
        have HGC5 := Lib.hid hgc5
        clear he5 hb5 hgc5
        go_wp2_with fail
        have hb0 := HGC5.out.bel
        have HCM : Hid (CM = fl (MO L1.length (cfs L1)) L1.length) := Lib.hid (by rw [HRES.out, HRE.out])
        refine bodyPost_ret (v := polyE (m : Int) (.slice (some ⟨g5, 0, none⟩) L1.length cp5)) (by simp [results, Try.results29, go_sem, s0, s1, s2, s3]) rfl ⟨g5, cp5, by rw [HCM.out, fl_len], by simp; omega, ?_, ?_⟩
        · rw [HCM.out, fl_len]
          refine Els.likeT ?_ (fun i hi => fl_get _ _ _ hi)
          exact HE5.out.over HGC5.out.hr (by omega) (fun k hk => by (repeat' (first | (with_reducible rfl) | (with_reducible refine (heap_setCell_other _ _ _ _ ?_).trans ?_) | (with_reducible refine (drew_heap' _ _).trans ?_) | exact hk)))
        · (repeat' (first | (with_reducible assumption) | (with_reducible exact Below.refl _ _) | (with_reducible refine below_drewN ?_ _) | (with_reducible refine Below.drew ?_) | (with_reducible refine Below.alloc ?_ ?_ _) | (with_reducible refine Below.setCell ?_ ?_ _) | (with_reducible refine Below.trans ?_ (Below.mono (by assumption) ?_)) | (with_reducible exact Nat.le_refl _) | (with_reducible assumption) | omega | (simp; omega) | (simp; done)))
      · have hL0 : L1.length = 0 := by omega
        rw [decide_eq_true hL0] at HZa
        rw [hL0] at HZa x3
        have HL0 := Lib.hid hL0
        clear hL0 hL
        go_wp2_with fail
        refine (HZa.out _).mono ?_
        rintro e w4 ⟨rfl, hb4⟩
        have hgc4 := HGC3.out.below hb4 (Nat.le_refl _)
        clear x0 x1 x2 x3 xf hb4
        obtain ⟨x0, x1, x2, x3, xf, xl4⟩ := cells4 hgc4.hp
        rw [HL0.out] at x3
        obtain ⟨s0, s1, s2, s3, sf, sl⟩ := cells4 hgc4.hr
        have HGC4 := Lib.hid hgc4
        clear hgc4
        go_wp2_with fail
        have hb0 := HGC4.out.bel
        have hl1 := HGC4.out.l1
        have HCM : Hid (CM = []) := Lib.hid (by rw [HRES.out, HRE.out, HL0.out]; rfl)
        refine bodyPost_ret (v := polyE (m : Int) (.slice (some ⟨ga, 0, none⟩) 0 ca)) (by simp [results, Try.results29, go_sem, s0, s1, s2, s3]) rfl ⟨ga, ca, by rw [HCM.out]; rfl, by simp; omega, ?_, ?_⟩
        · rw [HCM.out]
          exact fun i hi => absurd hi (Nat.not_lt_zero _)
        · (repeat' (first | (with_reducible assumption) | (with_reducible exact Below.refl _ _) | (with_reducible refine below_drewN ?_ _) | (with_reducible refine Below.drew ?_) | (with_reducible refine Below.alloc ?_ ?_ _) | (with_reducible refine Below.setCell ?_ ?_ _) | (with_reducible refine Below.trans ?_ (Below.mono (by assumption) ?_)) | (with_reducible exact Nat.le_refl _) | (with_reducible assumption) | omega | (simp; omega) | (simp; done)))
theorem impl_CommonFactor_no (q : Int) (v1 v2 : Value) (l1 l2 : List Int) (w : World) (hv1 : Sl w v1 l1) (hv2 : Sl w v2 l2) (hl1 : l1.length ≤ 1048576) (hl2 : l2.length ≤ 1048576) (hn : two2 q l1 l2 = false) :
    Calls Try.prog 15 #[.int .i64 q, v1, v2] w fun e w' => e = .returned (.tuple #[.slice none 0 0, .bool false]) ∧ Below w.heap.size w w' := by
  have HP := Lib.hid (validPolys_no q v1 v2 l1 l2 w hv1 hv2 hl1 hl2 hn)
  clear hv1 hv2 hn hl1 hl2
  go_enter Try.func15, Try.ntmps15
  go_wp2_with fail
  refine HP.out.mono ?_
  rintro e w1 ⟨rfl, hb1⟩
  have HB1 := Lib.hid hb1; clear hb1
  go_wp2_with fail
  go_ret2
  have hb1 := HB1.out
  have hz1 := hb1.size
  exact ⟨rfl, by (repeat' (first | (with_reducible assumption) | (with_reducible exact Below.refl _ _) | (with_reducible refine below_drewN ?_ _) | (with_reducible refine Below.drew ?_) | (with_reducible refine Below.alloc ?_ ?_ _) | (with_reducible refine Below.setCell ?_ ?_ _) | (with_reducible refine Below.trans ?_ (Below.mono (by assumption) ?_)) | (with_reducible exact Nat.le_refl _) | (with_reducible assumption) | omega | (simp; omega) | (simp; done)))⟩
theorem cmf_pg {q : Int} {l g : List Int} (h : isSz q = true) (hl : PG q l) (hg : PG q g) : (∀ i, El q (cfs (cmf q l g) i)) ∧ ((cmf q l g).length : Int) ≤ q := by
  have hp := gcl_pg h g.length l g hl hg
  refine ⟨fun i => ?_, by unfold cmf; rw [mnL_len]; exact hp.le⟩
  unfold cmf mnL
  by_cases hi : i < (gcl q g.length l g).length
  · show El q ((fl _ _).getD i 0)
    rw [fl_get _ _ _ hi]
    exact mno_el h hp.el i
  · show El q ((fl _ _).getD i 0)
    rw [fl_out _ _ _ (by omega)]
    exact El.zero h
set_option maxRecDepth 100000 in
set_option maxHeartbeats 4000000 in
theorem impl_CommonFactor_yes (m : Nat) (v1 v2 : Value) (l1 l2 : List Int) (w : World) (h : isSz (m : Int) = true) (hv1 : Sl w v1 l1) (hv2 : Sl w v2 l2) (hg1 : good (m : Int) l1 = true) (hg2 : good (m : Int) l2 = true) :
    Calls Try.prog 15 #[.int .i64 m, v1, v2] w fun e w' => ∃ v', e = .returned (.tuple #[v', .bool true]) ∧ Row w' w.heap.size v' (cmf m l1 l2) ∧ Below w.heap.size w w' := by
  have hq := isSz_le (m : Int) h
  have hp1 := pg_good h hg1
  have hp2 := pg_good h hg2
  obtain ⟨hce, hcl⟩ := cmf_pg h hp1 hp2
  have HP : Hid (Calls Try.prog 28 #[.int .i64 m, v1, v2] w fun e w' => ∃ g1 g2, e = .returned (.tuple #[polyE (m : Int) (.slice (some ⟨g1, 0, none⟩) l1.length l1.length), polyE (m : Int) (.slice (some ⟨g2, 0, none⟩) l2.length l2.length), .bool true]) ∧ g1 < w'.heap.size ∧ g2 < w'.heap.size ∧ Els w' g1 (m : Int) (cfs l1) l1.length ∧ Els w' g2 (m : Int) (cfs l2) l2.length ∧ Below w.heap.size w w') := Lib.hid (validPolys_yes (m : Int) v1 v2 l1 l2 w h hv1 hv2 hg1 hg2)
  have HRM : Hid (∀ g1 g2 w', g1 < w'.heap.size → g2 < w'.heap.size → Els w' g1 (m : Int) (cfs l1) l1.length → Els w' g2 (m : Int) (cfs l2) l2.length → Calls Try.prog 29 #[polyE (m : Int) (.slice (some ⟨g1, 0, none⟩) l1.length l1.length), polyE (m : Int) (.slice (some ⟨g2, 0, none⟩) l2.length l2.length)] w' fun e w'' => ∃ g' cap', e = .returned (polyE (m : Int) (.slice (some ⟨g', 0, none⟩) (cmf m l1 l2).length cap')) ∧ g' < w''.heap.size ∧ Els w'' g' (m : Int) (cfs (cmf m l1 l2)) (cmf m l1 l2).length ∧ Below w'.heap.size w' w'') := Lib.hid fun g1 g2 w' hg1 hg2 he1 he2 =>
    commonFactorE m g1 l1.length g2 l2.length l1 l2 w' h hg1 he1 hg2 he2 hp1 hp2
  have HNB : Hid (∀ g cap w', g < w'.heap.size → Els w' g (m : Int) (cfs (cmf m l1 l2)) (cmf m l1 l2).length → Calls Try.prog 26 #[polyE (m : Int) (.slice (some ⟨g, 0, none⟩) (cmf m l1 l2).length cap)] w' fun e w'' => ∃ v', e = .returned v' ∧ Row w'' w'.heap.size v' (cmf m l1 l2) ∧ Below w'.heap.size w' w'') := Lib.hid fun g cap w' hg he => by
    have := numbersE (m : Int) (.slice (some ⟨g, 0, none⟩) (cmf m l1 l2).length cap) (cfs (cmf m l1 l2)) _ w' h ⟨g, cap, rfl, hg, he⟩ (fun i _ => hce i) (by omega)
    rw [← fl_of (cmf m l1 l2)] at this
    exact this
  clear h hv1 hv2 hg1 hg2 hp1 hp2 hce hcl
  generalize cmf (m : Int) l1 l2 = r at *
  generalize cfs l1 = f1 at *
  generalize cfs l2 = f2 at *
  generalize l1.length = n1 at *
  generalize l2.length = n2 at *
  go_enter Try.func15, Try.ntmps15
  go_wp2_with fail
  refine HP.out.mono ?_
  rintro e w1 ⟨g1, g2, rfl, hg1, hg2, he1, he2, hb1⟩
  have HE1 := Lib.hid he1
  have HE2 := Lib.hid he2
  have HB1 := Lib.hid hb1; clear hb1 he1 he2
  go_wp2_with fail
  refine (HRM.out g1 g2 _ (by simp; omega) (by simp; omega) (HE1.out.below (B := w1.heap.size) (by (repeat' (first | (with_reducible assumption) | (with_reducible exact Below.refl _ _) | (with_reducible refine below_drewN ?_ _) | (with_reducible refine Below.drew ?_) | (with_reducible refine Below.alloc ?_ ?_ _) | (with_reducible refine Below.setCell ?_ ?_ _) | (with_reducible refine Below.trans ?_ (Below.mono (by assumption) ?_)) | (with_reducible exact Nat.le_refl _) | (with_reducible assumption) | omega | (simp; omega) | (simp; done)))) hg1) (HE2.out.below (B := w1.heap.size) (by (repeat' (first | (with_reducible assumption) | (with_reducible exact Below.refl _ _) | (with_reducible refine below_drewN ?_ _) | (with_reducible refine Below.drew ?_) | (with_reducible refine Below.alloc ?_ ?_ _) | (with_reducible refine Below.setCell ?_ ?_ _) | (with_reducible refine Below.trans ?_ (Below.mono (by assumption) ?_)) | (with_reducible exact Nat.le_refl _) | (with_reducible assumption) | omega | (simp; omega) | (simp; done)))) hg2)).mono ?_
  rintro e w3 ⟨g3, cp3, rfl, hg3, he3, hb3⟩
  have HE3 := Lib.hid he3
  have hz3 := hb3.size
  simp at hz3
  have HB3 := Lib.hid hb3; clear hb3 he3
  go_wp2_with fail
  refine (HNB.out g3 cp3 _ hg3 HE3.out).mono ?_
  rintro e w4 ⟨v4, rfl, hr4, hb4⟩
  have HR4 := Lib.hid hr4
  have HB4 := Lib.hid hb4; clear hb4 hr4
  go_wp2
  go_ret2
  have hb1 := HB1.out
  have hz1 := hb1.size
  have hb3 := HB3.out
  have hb4 := HB4.out
  exact ⟨_, rfl, HR4.out.mono (by omega), by (repeat' (first | (with_reducible assumption) | (with_reducible exact Below.refl _ _) | (with_reducible refine below_drewN ?_ _) | (with_reducible refine Below.drew ?_) | (with_reducible refine Below.alloc ?_ ?_ _) | (with_reducible refine Below.setCell ?_ ?_ _) | (with_reducible refine Below.trans ?_ (Below.mono (by assumption) ?_)) | (with_reducible exact Nat.le_refl _) | (with_reducible assumption) | omega | (simp; omega) | (simp; done)))⟩
theorem key_CommonFactor (q : Int) (l_f : List Int) (b_f : l_f.length ≤ 1048576) (l_g : List Int) (b_g : l_g.length ≤ 1048576) : ∃ (r : List Int) (o : Bool), r.length ≤ 1048576 ∧ (∀ (w : World) (v_f : Value) (_ : Sl w v_f l_f) (v_g : Value) (_ : Sl w v_g l_g), Calls Try.prog 14 #[.int .i64 q, v_f, v_g] w fun e w' => ∃ v, e = .returned (.tuple #[v, .bool o]) ∧ Row w' w.heap.size v r ∧ Below w.heap.size w w') ∧
      (∀ (w : World) (v_f : Value) (_ : Sl w v_f l_f) (v_g : Value) (_ : Sl w v_g l_g), Calls Try.prog 15 #[.int .i64 q, v_f, v_g] w fun e w' => ∃ v, e = .returned (.tuple #[v, .bool o]) ∧ Row w' w.heap.size v r ∧ Below w.heap.size w w') := by
  cases h : two2 q l_f l_g with
  | false => exact ⟨[], false, by simp, fun w v1 hv1 v2 hv2 => (spec_CommonFactor_no q v1 v2 l_f l_g w hv1 hv2 b_f b_g h).mono fun _ _ ⟨he, hb⟩ => ⟨_, he, Row.nil _ _, hb⟩, fun w v1 hv1 v2 hv2 => (impl_CommonFactor_no q v1 v2 l_f l_g w hv1 hv2 b_f b_g h).mono fun _ _ ⟨he, hb⟩ => ⟨_, he, Row.nil _ _, hb⟩⟩
  | true =>
    obtain ⟨m, rfl, hs, hg1, hg2⟩ := two2_nat h
    have hq := isSz_le (m : Int) hs
    have hl := (cmf_pg hs (pg_good hs hg1) (pg_good hs hg2)).2
    exact ⟨_, true, by omega, fun w v1 hv1 v2 hv2 => spec_CommonFactor_yes m v1 v2 l_f l_g w hs hv1 hv2 hg1 hg2, fun w v1 hv1 v2 hv2 => impl_CommonFactor_yes m v1 v2 l_f l_g w hs hv1 hv2 hg1 hg2⟩
set_option maxRecDepth 100000 in
set_option maxHeartbeats 4000000 in
/-- laws.FnExactCommonFactor. -/
theorem walk_FnExactCommonFactor (q : Int) (a_f : Option Addr) (n_f c_f : Nat) (z_f : List Int) (a_g : Option Addr) (n_g c_g : Nat) (z_g : List Int) (w : World) (_h_q : (Lit.int .i64 q).wf = true) (h_f : IsRow .i64 w a_f n_f c_f z_f) (h_g : IsRow .i64 w a_g n_g c_g z_g) :
    Calls Try.prog 4 #[.int .i64 q, .slice a_f n_f c_f, .slice a_g n_g c_g] w fun e w' => e = .returned (.bool true) ∧ Below w.heap.size w w' := by
  clear _h_q
  obtain ⟨hs_f, hl_f, _⟩ := h_f.sl
  generalize z_f.take n_f = l_f at *
  clear h_f
  subst hl_f
  obtain ⟨hs_g, hl_g, _⟩ := h_g.sl
  generalize z_g.take n_g = l_g at *
  clear h_g
  subst hl_g
  by_cases b_f : l_f.length ≤ 1048576
  rotate_left
  · have hn_f : (1048576 : Int) < (l_f.length : Int) := by omega
    go_enter Try.func4, Try.ntmps4
    go_wp2
    go_ret
    exact ⟨rfl, Below.refl _ _⟩
  by_cases b_g : l_g.length ≤ 1048576
  rotate_left
  · have hn_g : (1048576 : Int) < (l_g.length : Int) := by omega
    have hn_f : ¬ (1048576 : Int) < (l_f.length : Int) := by omega
    go_enter Try.func4, Try.ntmps4
    go_wp2
    go_ret
    exact ⟨rfl, Below.refl _ _⟩
  have hn_f : ¬ (1048576 : Int) < (l_f.length : Int) := by omega
  have hn_g : ¬ (1048576 : Int) < (l_g.length : Int) := by omega
  obtain ⟨r, o, hr, k1, k2⟩ := key_CommonFactor q l_f b_f l_g b_g
  have K1 := Lib.hid k1; clear k1
  have K2 := Lib.hid k2; clear k2
  have HS_f := Lib.hid hs_f; clear hs_f
  have HS_g := Lib.hid hs_g; clear hs_g
  have HB0 : Hid (Below w.heap.size w w) := Lib.hid (Below.refl _ _)
  go_enter Try.func4, Try.ntmps4
  go_wp2_with fail
  refine (toIntS_any _ l_f _ (HS_f.out.below HB0.out (Nat.le_refl _)) b_f).mono ?_
  rintro e w1 ⟨v_s_f, rfl, hrw1, hbw1⟩
  have hzw1 : w.heap.size ≤ w1.heap.size := hbw1.size
  have HBw1 : Hid (Below w.heap.size w w1) := Lib.hid (HB0.out.trans (hbw1.mono HB0.out.size))
  have hww1 := HBw1.out.size
  clear hbw1 HB0
  have R_s_f_w1 := Lib.hid hrw1; clear hrw1
  have lt_s_f : Hid (∀ g, v_s_f.ownBlock = some g → w.heap.size ≤ g ∧ g < w1.heap.size) := Lib.hid R_s_f_w1.out.lt
  go_wp2_with fail
  refine (toIntS_any _ l_g _ (HS_g.out.below HBw1.out (Nat.le_refl _)) b_g).mono ?_
  rintro e w2 ⟨v_s_g, rfl, hrw2, hbw2⟩
  have hzw2 : w1.heap.size ≤ w2.heap.size := hbw2.size
  have R_s_f_w2 := Lib.hid (R_s_f_w1.out.below hbw2)
  clear R_s_f_w1
  have HBw2 : Hid (Below w.heap.size w w2) := Lib.hid (HBw1.out.trans (hbw2.mono HBw1.out.size))
  have hww2 := HBw2.out.size
  clear hbw2 HBw1
  have R_s_g_w2 := Lib.hid hrw2; clear hrw2
  have lt_s_g : Hid (∀ g, v_s_g.ownBlock = some g → w1.heap.size ≤ g ∧ g < w2.heap.size) := Lib.hid R_s_g_w2.out.lt
  go_wp2_with fail
  refine (K1.out _ v_s_f R_s_f_w2.out.sl v_s_g R_s_g_w2.out.sl).mono ?_
  rintro e w3 ⟨v_sp, rfl, hrw3, hbw3⟩
  have hzw3 : w2.heap.size ≤ w3.heap.size := hbw3.size
  have R_s_f_w3 := Lib.hid (R_s_f_w2.out.below hbw3)
  clear R_s_f_w2
  have R_s_g_w3 := Lib.hid (R_s_g_w2.out.below hbw3)
  clear R_s_g_w2
  have HBw3 : Hid (Below w.heap.size w w3) := Lib.hid (HBw2.out.trans (hbw3.mono HBw2.out.size))
  have hww3 := HBw3.out.size
  clear hbw3 HBw2
  have R_sp_w3 := Lib.hid hrw3; clear hrw3
  have lt_sp : Hid (∀ g, v_sp.ownBlock = some g → w2.heap.size ≤ g ∧ g < w3.heap.size) := Lib.hid R_sp_w3.out.lt
  clear R_s_f_w3 lt_s_f
  clear R_s_g_w3 lt_s_g
  go_wp2_with fail
  refine (toIntS_any _ l_f _ (HS_f.out.below HBw3.out (Nat.le_refl _)) b_f).mono ?_
  rintro e w4 ⟨v_x_f, rfl, hrw4, hbw4⟩
  have hzw4 : w3.heap.size ≤ w4.heap.size := hbw4.size
  have R_sp_w4 := Lib.hid (R_sp_w3.out.below hbw4)
  clear R_sp_w3
  have HBw4 : Hid (Below w.heap.size w w4) := Lib.hid (HBw3.out.trans (hbw4.mono HBw3.out.size))
  have hww4 := HBw4.out.size
  clear hbw4 HBw3
  have R_x_f_w4 := Lib.hid hrw4; clear hrw4
  have lt_x_f : Hid (∀ g, v_x_f.ownBlock = some g → w3.heap.size ≤ g ∧ g < w4.heap.size) := Lib.hid R_x_f_w4.out.lt
  go_wp2_with fail
  refine (toIntS_any _ l_g _ (HS_g.out.below HBw4.out (Nat.le_refl _)) b_g).mono ?_
  rintro e w5 ⟨v_x_g, rfl, hrw5, hbw5⟩
  have hzw5 : w4.heap.size ≤ w5.heap.size := hbw5.size
  have R_sp_w5 := Lib.hid (R_sp_w4.out.below hbw5)
  clear R_sp_w4
  have R_x_f_w5 := Lib.hid (R_x_f_w4.out.below hbw5)
  clear R_x_f_w4
  have HBw5 : Hid (Below w.heap.size w w5) := Lib.hid (HBw4.out.trans (hbw5.mono HBw4.out.size))
  have hww5 := HBw5.out.size
  clear hbw5 HBw4
  have R_x_g_w5 := Lib.hid hrw5; clear hrw5
  have lt_x_g : Hid (∀ g, v_x_g.ownBlock = some g → w4.heap.size ≤ g ∧ g < w5.heap.size) := Lib.hid R_x_g_w5.out.lt
  go_wp2_with fail
  refine (K2.out _ v_x_f R_x_f_w5.out.sl v_x_g R_x_g_w5.out.sl).mono ?_
  rintro e w6 ⟨v_im, rfl, hrw6, hbw6⟩
  have hzw6 : w5.heap.size ≤ w6.heap.size := hbw6.size
  have R_sp_w6 := Lib.hid (R_sp_w5.out.below hbw6)
  clear R_sp_w5
  have R_x_f_w6 := Lib.hid (R_x_f_w5.out.below hbw6)
  clear R_x_f_w5
  have R_x_g_w6 := Lib.hid (R_x_g_w5.out.below hbw6)
  clear R_x_g_w5
  have HBw6 : Hid (Below w.heap.size w w6) := Lib.hid (HBw5.out.trans (hbw6.mono HBw5.out.size))
  have hww6 := HBw6.out.size
  clear hbw6 HBw5
  have R_im_w6 := Lib.hid hrw6; clear hrw6
  have lt_im : Hid (∀ g, v_im.ownBlock = some g → w5.heap.size ≤ g ∧ g < w6.heap.size) := Lib.hid R_im_w6.out.lt
  go_wp2_with fail
  refine (eq_same v_im v_sp r _ _ _ R_im_w6.out R_sp_w6.out (by omega)).mono ?_
  rintro e w7 ⟨rfl, hbw7⟩
  have hzw7 : w6.heap.size ≤ w7.heap.size := hbw7.size
  have R_sp_w7 := Lib.hid (R_sp_w6.out.below hbw7)
  clear R_sp_w6
  have R_x_f_w7 := Lib.hid (R_x_f_w6.out.below hbw7)
  clear R_x_f_w6
  have R_x_g_w7 := Lib.hid (R_x_g_w6.out.below hbw7)
  clear R_x_g_w6
  have R_im_w7 := Lib.hid (R_im_w6.out.below hbw7)
  clear R_im_w6
  have HBw7 : Hid (Below w.heap.size w w7) := Lib.hid (HBw6.out.trans (hbw7.mono HBw6.out.size))
  have hww7 := HBw7.out.size
  clear hbw7 HBw6
  go_wp2_with fail
  refine (toIntS_any _ l_f _ (HS_f.out.below HBw7.out (Nat.le_refl _)) b_f).mono ?_
  rintro e w8 ⟨v_y_f, rfl, hrw8, hbw8⟩
  have hzw8 : w7.heap.size ≤ w8.heap.size := hbw8.size
  have R_sp_w8 := Lib.hid (R_sp_w7.out.below hbw8)
  clear R_sp_w7
  have R_x_f_w8 := Lib.hid (R_x_f_w7.out.below hbw8)
  clear R_x_f_w7
  have R_x_g_w8 := Lib.hid (R_x_g_w7.out.below hbw8)
  clear R_x_g_w7
  have R_im_w8 := Lib.hid (R_im_w7.out.below hbw8)
  clear R_im_w7
  have HBw8 : Hid (Below w.heap.size w w8) := Lib.hid (HBw7.out.trans (hbw8.mono HBw7.out.size))
  have hww8 := HBw8.out.size
  clear hbw8 HBw7
  have R_y_f_w8 := Lib.hid hrw8; clear hrw8
  have lt_y_f : Hid (∀ g, v_y_f.ownBlock = some g → w7.heap.size ≤ g ∧ g < w8.heap.size) := Lib.hid R_y_f_w8.out.lt
  go_wp2_with fail
  refine (eq_same v_x_f v_y_f l_f _ _ _ R_x_f_w8.out R_y_f_w8.out (by omega)).mono ?_
  rintro e w9 ⟨rfl, hbw9⟩
  have hzw9 : w8.heap.size ≤ w9.heap.size := hbw9.size
  have R_sp_w9 := Lib.hid (R_sp_w8.out.below hbw9)
  clear R_sp_w8
  have R_x_f_w9 := Lib.hid (R_x_f_w8.out.below hbw9)
  clear R_x_f_w8
  have R_x_g_w9 := Lib.hid (R_x_g_w8.out.below hbw9)
  clear R_x_g_w8
  have R_im_w9 := Lib.hid (R_im_w8.out.below hbw9)
  clear R_im_w8
  have R_y_f_w9 := Lib.hid (R_y_f_w8.out.below hbw9)
  clear R_y_f_w8
  have HBw9 : Hid (Below w.heap.size w w9) := Lib.hid (HBw8.out.trans (hbw9.mono HBw8.out.size))
  have hww9 := HBw9.out.size
  clear hbw9 HBw8
  clear R_y_f_w9 lt_y_f
  go_wp2_with fail
  refine (toIntS_any _ l_g _ (HS_g.out.below HBw9.out (Nat.le_refl _)) b_g).mono ?_
  rintro e w10 ⟨v_y_g, rfl, hrw10, hbw10⟩
  have hzw10 : w9.heap.size ≤ w10.heap.size := hbw10.size
  have R_sp_w10 := Lib.hid (R_sp_w9.out.below hbw10)
  clear R_sp_w9
  have R_x_f_w10 := Lib.hid (R_x_f_w9.out.below hbw10)
  clear R_x_f_w9
  have R_x_g_w10 := Lib.hid (R_x_g_w9.out.below hbw10)
  clear R_x_g_w9
  have R_im_w10 := Lib.hid (R_im_w9.out.below hbw10)
  clear R_im_w9
  have HBw10 : Hid (Below w.heap.size w w10) := Lib.hid (HBw9.out.trans (hbw10.mono HBw9.out.size))
  have hww10 := HBw10.out.size
  clear hbw10 HBw9
  have R_y_g_w10 := Lib.hid hrw10; clear hrw10
  have lt_y_g : Hid (∀ g, v_y_g.ownBlock = some g → w9.heap.size ≤ g ∧ g < w10.heap.size) := Lib.hid R_y_g_w10.out.lt
  go_wp2_with fail
  refine (eq_same v_x_g v_y_g l_g _ _ _ R_x_g_w10.out R_y_g_w10.out (by omega)).mono ?_
  rintro e w11 ⟨rfl, hbw11⟩
  have hzw11 : w10.heap.size ≤ w11.heap.size := hbw11.size
  have R_sp_w11 := Lib.hid (R_sp_w10.out.below hbw11)
  clear R_sp_w10
  have R_x_f_w11 := Lib.hid (R_x_f_w10.out.below hbw11)
  clear R_x_f_w10
  have R_x_g_w11 := Lib.hid (R_x_g_w10.out.below hbw11)
  clear R_x_g_w10
  have R_im_w11 := Lib.hid (R_im_w10.out.below hbw11)
  clear R_im_w10
  have R_y_g_w11 := Lib.hid (R_y_g_w10.out.below hbw11)
  clear R_y_g_w10
  have HBw11 : Hid (Below w.heap.size w w11) := Lib.hid (HBw10.out.trans (hbw11.mono HBw10.out.size))
  have hww11 := HBw11.out.size
  clear hbw11 HBw10
  clear R_y_g_w11 lt_y_g
  go_wp2_with fail
  refine (mark_any v_x_f l_f _ (1) _ R_x_f_w11.out (by omega) (by omega) (by omega)).mono ?_
  rintro e w12 ⟨rfl, hrw12, hgw12⟩
  have hzw12 : w11.heap.size ≤ w12.heap.size := hgw12.size
  have R_sp_w12 := Lib.hid (R_sp_w11.out.keep (w' := w12) fun g hg => hgw12.block g (R_sp_w11.out.lt g hg).2 fun e => by have h1 := lt_sp.out g hg; have h2 := lt_x_f.out g e.symm; omega)
  clear R_sp_w11
  have R_x_g_w12 := Lib.hid (R_x_g_w11.out.keep (w' := w12) fun g hg => hgw12.block g (R_x_g_w11.out.lt g hg).2 fun e => by have h1 := lt_x_g.out g hg; have h2 := lt_x_f.out g e.symm; omega)
  clear R_x_g_w11
  have R_im_w12 := Lib.hid (R_im_w11.out.keep (w' := w12) fun g hg => hgw12.block g (R_im_w11.out.lt g hg).2 fun e => by have h1 := lt_im.out g hg; have h2 := lt_x_f.out g e.symm; omega)
  clear R_im_w11
  have HBw12 : Hid (Below w.heap.size w w12) := Lib.hid (Below.grown HBw11.out hgw12 (by omega) (fun g e => by have h2 := lt_x_f.out g e; omega))
  have hww12 := HBw12.out.size
  have R_x_f_w12 := Lib.hid hrw12
  clear hrw12 hgw12 HBw11 R_x_f_w11
  go_wp2_with fail
  refine (mark_big v_x_g l_g _ (1 + (l_f.length : Int)) _ R_x_g_w12.out (by omega) (by omega) (by omega)).mono ?_
  rintro e w13 ⟨rfl, hrw13, hgw13⟩
  have hzw13 : w12.heap.size ≤ w13.heap.size := hgw13.size
  have R_sp_w13 := Lib.hid (R_sp_w12.out.keep (w' := w13) fun g hg => hgw13.block g (R_sp_w12.out.lt g hg).2 fun e => by have h1 := lt_sp.out g hg; have h2 := lt_x_g.out g e.symm; omega)
  clear R_sp_w12
  have R_x_f_w13 := Lib.hid (R_x_f_w12.out.keep (w' := w13) fun g hg => hgw13.block g (R_x_f_w12.out.lt g hg).2 fun e => by have h1 := lt_x_f.out g hg; have h2 := lt_x_g.out g e.symm; omega)
  clear R_x_f_w12
  have R_im_w13 := Lib.hid (R_im_w12.out.keep (w' := w13) fun g hg => hgw13.block g (R_im_w12.out.lt g hg).2 fun e => by have h1 := lt_im.out g hg; have h2 := lt_x_g.out g e.symm; omega)
  clear R_im_w12
  have HBw13 : Hid (Below w.heap.size w w13) := Lib.hid (Below.grown HBw12.out hgw13 (by omega) (fun g e => by have h2 := lt_x_g.out g e; omega))
  have hww13 := HBw13.out.size
  have R_x_g_w13 := Lib.hid hrw13
  clear hrw13 hgw13 HBw12 R_x_g_w12
  clear R_x_f_w13 lt_x_f
  clear R_x_g_w13 lt_x_g
  have hpos : ¬ (1 + (l_f.length : Int) + (l_g.length : Int)) < (0 : Int) := by omega
  go_wp2_with fail
  refine (eq_same v_im v_sp r _ _ _ R_im_w13.out R_sp_w13.out (by omega)).mono ?_
  rintro e w14 ⟨rfl, hbw14⟩
  have hzw14 : w13.heap.size ≤ w14.heap.size := hbw14.size
  have R_sp_w14 := Lib.hid (R_sp_w13.out.below hbw14)
  clear R_sp_w13
  have R_im_w14 := Lib.hid (R_im_w13.out.below hbw14)
  clear R_im_w13
  have HBw14 : Hid (Below w.heap.size w w14) := Lib.hid (HBw13.out.trans (hbw14.mono HBw13.out.size))
  have hww14 := HBw14.out.size
  clear hbw14 HBw13
  go_wp2_with fail
  refine (mark_any v_im r _ (1) _ R_im_w14.out (by omega) (by omega) (by omega)).mono ?_
  rintro e w15 ⟨rfl, hrw15, hgw15⟩
  have hzw15 : w14.heap.size ≤ w15.heap.size := hgw15.size
  have R_sp_w15 := Lib.hid (R_sp_w14.out.keep (w' := w15) fun g hg => hgw15.block g (R_sp_w14.out.lt g hg).2 fun e => by have h1 := lt_sp.out g hg; have h2 := lt_im.out g e.symm; omega)
  clear R_sp_w14
  have HBw15 : Hid (Below w.heap.size w w15) := Lib.hid (Below.grown HBw14.out hgw15 (by omega) (fun g e => by have h2 := lt_im.out g e; omega))
  have hww15 := HBw15.out.size
  have R_im_w15 := Lib.hid hrw15
  clear hrw15 hgw15 HBw14 R_im_w14
  go_wp2_with fail
  refine (held_any v_im r.length _ (1) _ R_im_w15.out (by omega) (by omega) (by omega)).mono ?_
  rintro e wx1 ⟨rfl, rfl⟩
  go_wp2_with fail
  refine (toIntS_any _ l_f _ (HS_f.out.below HBw15.out (Nat.le_refl _)) b_f).mono ?_
  rintro e w16 ⟨v_t_f, rfl, hrw16, hbw16⟩
  have hzw16 : w15.heap.size ≤ w16.heap.size := hbw16.size
  have R_sp_w16 := Lib.hid (R_sp_w15.out.below hbw16)
  clear R_sp_w15
  have R_im_w16 := Lib.hid (R_im_w15.out.below hbw16)
  clear R_im_w15
  have HBw16 : Hid (Below w.heap.size w w16) := Lib.hid (HBw15.out.trans (hbw16.mono HBw15.out.size))
  have hww16 := HBw16.out.size
  clear hbw16 HBw15
  have R_t_f_w16 := Lib.hid hrw16; clear hrw16
  have lt_t_f : Hid (∀ g, v_t_f.ownBlock = some g → w15.heap.size ≤ g ∧ g < w16.heap.size) := Lib.hid R_t_f_w16.out.lt
  go_wp2_with fail
  refine (toIntS_any _ l_g _ (HS_g.out.below HBw16.out (Nat.le_refl _)) b_g).mono ?_
  rintro e w17 ⟨v_t_g, rfl, hrw17, hbw17⟩
  have hzw17 : w16.heap.size ≤ w17.heap.size := hbw17.size
  have R_sp_w17 := Lib.hid (R_sp_w16.out.below hbw17)
  clear R_sp_w16
  have R_im_w17 := Lib.hid (R_im_w16.out.below hbw17)
  clear R_im_w16
  have R_t_f_w17 := Lib.hid (R_t_f_w16.out.below hbw17)
  clear R_t_f_w16
  have HBw17 : Hid (Below w.heap.size w w17) := Lib.hid (HBw16.out.trans (hbw17.mono HBw16.out.size))
  have hww17 := HBw17.out.size
  clear hbw17 HBw16
  have R_t_g_w17 := Lib.hid hrw17; clear hrw17
  have lt_t_g : Hid (∀ g, v_t_g.ownBlock = some g → w16.heap.size ≤ g ∧ g < w17.heap.size) := Lib.hid R_t_g_w17.out.lt
  go_wp2_with fail
  refine (K2.out _ v_t_f R_t_f_w17.out.sl v_t_g R_t_g_w17.out.sl).mono ?_
  rintro e w18 ⟨v_im2, rfl, hrw18, hbw18⟩
  have hzw18 : w17.heap.size ≤ w18.heap.size := hbw18.size
  have R_sp_w18 := Lib.hid (R_sp_w17.out.below hbw18)
  clear R_sp_w17
  have R_im_w18 := Lib.hid (R_im_w17.out.below hbw18)
  clear R_im_w17
  have R_t_f_w18 := Lib.hid (R_t_f_w17.out.below hbw18)
  clear R_t_f_w17
  have R_t_g_w18 := Lib.hid (R_t_g_w17.out.below hbw18)
  clear R_t_g_w17
  have HBw18 : Hid (Below w.heap.size w w18) := Lib.hid (HBw17.out.trans (hbw18.mono HBw17.out.size))
  have hww18 := HBw18.out.size
  clear hbw18 HBw17
  have R_im2_w18 := Lib.hid hrw18; clear hrw18
  have lt_im2 : Hid (∀ g, v_im2.ownBlock = some g → w17.heap.size ≤ g ∧ g < w18.heap.size) := Lib.hid R_im2_w18.out.lt
  clear R_t_f_w18 lt_t_f
  clear R_t_g_w18 lt_t_g
  go_wp2_with fail
  refine (eq_same v_im2 v_sp r _ _ _ R_im2_w18.out R_sp_w18.out (by omega)).mono ?_
  rintro e w19 ⟨rfl, hbw19⟩
  have hzw19 : w18.heap.size ≤ w19.heap.size := hbw19.size
  have R_sp_w19 := Lib.hid (R_sp_w18.out.below hbw19)
  clear R_sp_w18
  have R_im_w19 := Lib.hid (R_im_w18.out.below hbw19)
  clear R_im_w18
  have R_im2_w19 := Lib.hid (R_im2_w18.out.below hbw19)
  clear R_im2_w18
  have HBw19 : Hid (Below w.heap.size w w19) := Lib.hid (HBw18.out.trans (hbw19.mono HBw18.out.size))
  have hww19 := HBw19.out.size
  clear hbw19 HBw18
  go_wp2_with fail
  refine (held_any v_im r.length _ (1) _ R_im_w19.out (by omega) (by omega) (by omega)).mono ?_
  rintro e wx2 ⟨rfl, rfl⟩
  go_wp2
  go_ret
  exact ⟨rfl, HBw19.out⟩
/-- No product of a polynomial with itself divides it. -/
def hns (q : Int) (l : List Int) : Bool := decide ((cmf q l (drvL q l)).length = 1)
theorem hns_nil (q : Int) : hns q [] = false := rfl
set_option maxRecDepth 100000 in
set_option maxHeartbeats 4000000 in
/-- impl.poly.hasNoSquare. -/
theorem hasNoSquareE (m g cap : Nat) (l : List Int) (w : World) (h : isSz (m : Int) = true) (hg : g < w.heap.size) (he : Els w g (m : Int) (cfs l) l.length) (hl : PG (m : Int) l) :
    Calls Try.prog 31 #[polyE (m : Int) (.slice (some ⟨g, 0, none⟩) l.length cap)] w fun e w' => e = .returned (.bool (hns m l)) ∧ Below w.heap.size w w' := by
  have hq := isSz_le (m : Int) h
  have hle := hl.le
  obtain ⟨hd1, hd2⟩ := drvL_pg h hl
  have hcl := (cmf_pg h hl hd1).2
  have HDV : Hid (∀ w', Below w.heap.size w w' → Calls Try.prog 25 #[polyE (m : Int) (.slice (some ⟨g, 0, none⟩) l.length cap)] w' fun e w'' => ∃ g' cap', e = .returned (polyE (m : Int) (.slice (some ⟨g', 0, none⟩) (drvL m l).length cap')) ∧ w'.heap.size ≤ g' ∧ g' < w''.heap.size ∧ Els w'' g' (m : Int) (cfs (drvL m l)) (drvL m l).length ∧ Below w'.heap.size w' w'') := Lib.hid fun w' hb => by
    have hz := hb.size
    refine (derivE m l.length g cap (cfs l) w' h (by omega) (he.below hb hg) hl.el (by omega)).mono ?_
    rintro e w2 ⟨g2, c2, rfl, h1, h2, h3, h4⟩
    have e1 : (drvL m l).length = sn (drv m (cfs l)) (l.length - 1) := fl_len _ _
    rw [e1]
    exact ⟨g2, c2, rfl, h1, h2, Els.likeT h3 (fun i hi => fl_get _ _ _ hi), h4⟩
  have HCF : Hid (∀ g2 c2 w', Below w.heap.size w w' → g2 < w'.heap.size → Els w' g2 (m : Int) (cfs (drvL m l)) (drvL m l).length → Calls Try.prog 29 #[polyE (m : Int) (.slice (some ⟨g, 0, none⟩) l.length cap), polyE (m : Int) (.slice (some ⟨g2, 0, none⟩) (drvL m l).length c2)] w' fun e w'' => ∃ g' cap', e = .returned (polyE (m : Int) (.slice (some ⟨g', 0, none⟩) (cmf m l (drvL m l)).length cap')) ∧ Below w'.heap.size w' w'') := Lib.hid fun g2 c2 w' hb hg2 he2 =>
    (commonFactorE m g cap g2 c2 l (drvL m l) w' h (by have := hb.size; omega) (he.below hb hg) hg2 he2 hl hd1).mono fun _ _ ⟨g', c', h1, _, _, h4⟩ => ⟨g', c', h1, h4⟩
  have hdeg : ∀ g' c' w', Calls Try.prog 35 #[polyE (m : Int) (.slice (some ⟨g', 0, none⟩) (cmf m l (drvL m l)).length c')] w' fun e w'' => e = .returned (.int .i64 (((cmf m l (drvL m l)).length : Int) - 1)) ∧ Below w'.heap.size w' w'' := fun g' c' w' => degreeE (m : Int) g' _ c' w' (by omega)
  unfold hns
  clear h he hl hd1 hd2 hcl
  generalize (cmf (m : Int) l (drvL m l)).length = k at *
  generalize cfs (drvL m l) = F2 at *
  generalize (drvL m l).length = n2 at *
  obtain ⟨d, hd⟩ : ∃ d : Int, (k : Int) - 1 = d := ⟨_, rfl⟩
  rw [hd] at hdeg
  have HDEG := Lib.hid hdeg
  have hb0 : (d == 0) = decide (k = 1) := by
    by_cases e : k = 1
    · rw [decide_eq_true e]
      have : d = 0 := by omega
      rw [this]
      rfl
    · rw [decide_eq_false e]
      simp
      omega
  clear hd hdeg
  generalize decide (k = 1) = ans at *
  have hb1 : decide (d = 0) = ans := by rw [← hb0]; rfl
  go_enter Try.func31, Try.ntmps31
  go_wp2_with fail
  have HKEEP : Hid (∀ w', Below (w.heap.size + 1) (w.alloc (pblk (m : Int) (.slice (some ⟨g, 0, none⟩) l.length cap))) w' → w'.cell? ⟨w.heap.size, 0, none⟩ = some (.int .i64 m) ∧ w'.cell? ⟨w.heap.size, 1, none⟩ = some (.int .i64 (pr m)) ∧ w'.cell? ⟨w.heap.size, 2, none⟩ = some (.int .i64 (pl m)) ∧ w'.cell? ⟨w.heap.size, 3, none⟩ = some (.slice (some ⟨g, 0, none⟩) l.length cap)) := Lib.hid fun w' hb => by
    obtain ⟨x0, x1, x2, x3, _⟩ := cells4 ((hb.block _ (by omega)).trans (heap_alloc_new w _))
    exact ⟨x0, x1, x2, x3⟩
  go_region_held3 (fun w' => w'.cell? ⟨w.heap.size, 0, none⟩ = some (.int .i64 m) ∧ w'.cell? ⟨w.heap.size, 1, none⟩ = some (.int .i64 (pr m)) ∧ w'.cell? ⟨w.heap.size, 2, none⟩ = some (.int .i64 (pl m)) ∧ w'.cell? ⟨w.heap.size, 3, none⟩ = some (.slice (some ⟨g, 0, none⟩) l.length cap))
    (exact HKEEP.out _ (by (try have hb3 := HB3.out); (try have hb4 := HB4.out); (try have hb5 := HB5.out); (repeat' (first | (with_reducible assumption) | (with_reducible exact Below.refl _ _) | (with_reducible refine below_drewN ?_ _) | (with_reducible refine Below.drew ?_) | (with_reducible refine Below.alloc ?_ ?_ _) | (with_reducible refine Below.setCell ?_ ?_ _) | (with_reducible refine Below.trans ?_ (Below.mono (by assumption) ?_)) | (with_reducible exact Nat.le_refl _) | (with_reducible assumption) | omega | (simp; omega) | (simp; done)))))
    (first
    | (go_at_call 25; refine (HDV.out _ (by (repeat' (first | (with_reducible assumption) | (with_reducible exact Below.refl _ _) | (with_reducible refine below_drewN ?_ _) | (with_reducible refine Below.drew ?_) | (with_reducible refine Below.alloc ?_ ?_ _) | (with_reducible refine Below.setCell ?_ ?_ _) | (with_reducible refine Below.trans ?_ (Below.mono (by assumption) ?_)) | (with_reducible exact Nat.le_refl _) | (with_reducible assumption) | omega | (simp; omega) | (simp; done))))).mono ?_; rintro e w3 ⟨g3, cp3, rfl, hlo3, hg3, he3, hb3⟩; have HE3 := Lib.hid he3; clear he3; obtain ⟨hc3, hf3⟩ := bcell hb3; (try simp only [World.size_drew] at hc3 hf3); have hz3 := hb3.size; (try simp at hz3); have HB3 := Lib.hid hb3; clear hb3)
    | (go_at_call 29; refine (HCF.out _ _ _ (by have hb3 := HB3.out; (repeat' (first | (with_reducible assumption) | (with_reducible exact Below.refl _ _) | (with_reducible refine below_drewN ?_ _) | (with_reducible refine Below.drew ?_) | (with_reducible refine Below.alloc ?_ ?_ _) | (with_reducible refine Below.setCell ?_ ?_ _) | (with_reducible refine Below.trans ?_ (Below.mono (by assumption) ?_)) | (with_reducible exact Nat.le_refl _) | (with_reducible assumption) | omega | (simp; omega) | (simp; done)))) (by first | exact hg3 | (simp; omega)) HE3.out).mono ?_; rintro e w4 ⟨g4, cp4, rfl, hb4⟩; obtain ⟨hc4, hf4⟩ := bcell hb4; (try simp only [World.size_drew] at hc4 hf4); have hz4 := hb4.size; (try simp at hz4); have HB4 := Lib.hid hb4; clear hb4)
    | (go_at_call 35; refine (HDEG.out _ _ _).mono ?_; rintro e w5 ⟨rfl, hb5⟩; obtain ⟨hc5, hf5⟩ := bcell hb5; (try simp only [World.size_drew] at hc5 hf5); have hz5 := hb5.size; (try simp at hz5); have HB5 := Lib.hid hb5; clear hb5))
  all_goals
    go_wp2
    go_ret
    have hb3 := HB3.out
    have hb4 := HB4.out
    have hb5 := HB5.out
    exact ⟨by first | rfl | exact ret_bool hb1 | exact ret_bool hb0, by (repeat' (first | (with_reducible assumption) | (with_reducible exact Below.refl _ _) | (with_reducible refine below_drewN ?_ _) | (with_reducible refine Below.drew ?_) | (with_reducible refine Below.alloc ?_ ?_ _) | (with_reducible refine Below.setCell ?_ ?_ _) | (with_reducible refine Below.trans ?_ (Below.mono (by assumption) ?_)) | (with_reducible exact Nat.le_refl _) | (with_reducible assumption) | omega | (simp; omega) | (simp; done)))⟩
set_option maxRecDepth 100000 in
set_option maxHeartbeats 4000000 in
/-- spec.ctNoSquare. -/
theorem ctNoSquare_any (m : Nat) (v : Value) (l : List Int) (w : World) (h : isSz (m : Int) = true) (hv : Sl w v l) (hl : PG (m : Int) l) :
    Calls Try.prog 30 #[.int .i64 m, v] w fun e w' => e = .returned (.bool (hns m l)) ∧ Below w.heap.size w w' := by
  have hq := isSz_le (m : Int) h
  have hle := hl.le
  obtain ⟨hd1, hd2⟩ := drvL_pg h hl
  have hcl := (cmf_pg h hl hd1).2
  obtain ⟨a, c, hf⟩ := hv.form
  by_cases h0 : l.length = 0
  · have e : l = [] := List.eq_nil_of_length_eq_zero h0
    subst e
    rw [hns_nil]
    subst hf
    clear h hv hl hd1 hd2 hcl
    go_enter Try.func30, Try.ntmps30
    go_wp2
    go_ret
    exact ⟨rfl, Below.refl _ _⟩
  · have HDV := Lib.hid (ctDerivative_any m v l w h hv hl)
    have HCF := Lib.hid (fun v2 w' (hb : Below w.heap.size w w') (h2 : Sl w' v2 (drvL m l)) => ctCommon_any m v v2 l (drvL m l) w' h (hv.below hb (Nat.le_refl _)) h2 hl hd1)
    have HANS : Hid (hns m l = decide ((cmf m l (drvL m l)).length = 1)) := Lib.hid rfl
    clear h hv hl hd1 hd2
    generalize hns m l = ans at *
    generalize cmf (m : Int) l (drvL m l) = r at *
    generalize drvL (m : Int) l = dl at *
    subst hf
    have hpos : (0 : Int) < (l.length : Int) := by omega
    go_enter Try.func30, Try.ntmps30
    go_wp2_with fail
    refine HDV.out.mono ?_
    rintro e w1 ⟨v1, rfl, hr1, hb1⟩
    have hz1 := hb1.size
    have HR1 := Lib.hid hr1.sl
    have HB1 := Lib.hid hb1
    clear hr1 hb1
    go_wp2_with fail
    refine (HCF.out v1 _ HB1.out HR1.out).mono ?_
    rintro e w2 ⟨v2, rfl, hr2, hb2⟩
    obtain ⟨a2, c2, rfl⟩ := hr2.sl.form
    have HB2 : Hid (Below w.heap.size w w2) := Lib.hid (HB1.out.trans (hb2.mono hz1))
    clear hr2 hb2
    generalize r.length = k at *
    by_cases hk : k = 1
    · have HA : Hid (ans = true) := Lib.hid (by rw [HANS.out, decide_eq_true hk])
      subst hk
      go_wp2
      go_ret
      exact ⟨by rw [HA.out]; rfl, HB2.out⟩
    · have HA : Hid (ans = false) := Lib.hid (by rw [HANS.out, decide_eq_false hk])
      have hk1 : ((k : Int) == 1) = false := by simp; omega
      have hk2 : decide ((k : Int) = 1) = false := by simp; omega
      clear hk
      go_wp2
      go_ret
      exact ⟨by rw [HA.out]; first | rfl | exact ret_bool hk2 | exact ret_bool hk1, HB2.out⟩
theorem spec_HasNoSquare_no (q : Int) (v : Value) (l : List Int) (w : World) (hv : Sl w v l) (hl : l.length ≤ 1048576) (hg : (isSz q && good q l) = false) :
    Calls Try.prog 16 #[.int .i64 q, v] w fun e w' => e = .returned (.tuple #[.bool false, .bool false]) ∧ Below w.heap.size w w' := by
  have hp := plGood_any q v l w hv hl
  rw [hg] at hp
  have HP := Lib.hid hp
  clear hp hg hv hl
  go_enter Try.func16, Try.ntmps16
  go_wp2_with fail
  refine HP.out.mono ?_
  rintro e w1 ⟨rfl, hb1⟩
  go_wp2
  go_ret2
  exact ⟨rfl, hb1⟩
theorem impl_HasNoSquare_no (q : Int) (v : Value) (l : List Int) (w : World) (hv : Sl w v l) (hl : l.length ≤ 1048576) (hg : (isSz q && good q l) = false) :
    Calls Try.prog 17 #[.int .i64 q, v] w fun e w' => e = .returned (.tuple #[.bool false, .bool false]) ∧ Below w.heap.size w w' := by
  have HP := Lib.hid (validPoly_no q v l w hv hl hg)
  clear hg hv hl
  go_enter Try.func17, Try.ntmps17
  go_wp2_with fail
  refine HP.out.mono ?_
  rintro e w1 ⟨rfl, hb1⟩
  have hz1 := hb1.size
  have HB1 := Lib.hid hb1; clear hb1
  go_wp2_with fail
  go_ret2
  have hb1 := HB1.out
  exact ⟨rfl, by (repeat' (first | (with_reducible assumption) | (with_reducible exact Below.refl _ _) | (with_reducible refine below_drewN ?_ _) | (with_reducible refine Below.drew ?_) | (with_reducible refine Below.alloc ?_ ?_ _) | (with_reducible refine Below.setCell ?_ ?_ _) | (with_reducible refine Below.trans ?_ (Below.mono (by assumption) ?_)) | (with_reducible exact Nat.le_refl _) | (with_reducible assumption) | omega | (simp; omega) | (simp; done)))⟩
theorem spec_HasNoSquare_yes (m : Nat) (v : Value) (l : List Int) (w : World) (h : isSz (m : Int) = true) (hv : Sl w v l) (hg : good (m : Int) l = true) :
    Calls Try.prog 16 #[.int .i64 m, v] w fun e w' => e = .returned (.tuple #[.bool (hns m l), .bool true]) ∧ Below w.heap.size w w' := by
  have hq := isSz_le (m : Int) h
  have hlen := (good_parts hg).1
  have hp := plGood_any (m : Int) v l w hv (by omega)
  rw [h, hg] at hp
  have HP := Lib.hid hp
  have HN := Lib.hid (fun w' (hb : Below w.heap.size w w') => ctNoSquare_any m v l w' h (hv.below hb (Nat.le_refl _)) (pg_good h hg))
  clear hp hg hv h
  generalize hns m l = r at *
  go_enter Try.func16, Try.ntmps16
  go_wp2_with fail
  refine HP.out.mono ?_
  rintro e w1 ⟨rfl, hb1⟩
  have hz1 := hb1.size
  have HB1 := Lib.hid hb1; clear hb1
  go_wp2_with fail
  refine (HN.out _ HB1.out).mono ?_
  rintro e w2 ⟨rfl, hb2⟩
  have HB2 : Hid (Below w.heap.size w w2) := Lib.hid (HB1.out.trans (hb2.mono hz1)); clear hb2
  go_wp2
  go_ret2
  exact ⟨rfl, HB2.out⟩
theorem impl_HasNoSquare_yes (m : Nat) (v : Value) (l : List Int) (w : World) (h : isSz (m : Int) = true) (hv : Sl w v l) (hg : good (m : Int) l = true) :
    Calls Try.prog 17 #[.int .i64 m, v] w fun e w' => e = .returned (.tuple #[.bool (hns m l), .bool true]) ∧ Below w.heap.size w w' := by
  have HP : Hid (Calls Try.prog 24 #[.int .i64 m, v] w fun e w' => ∃ g, e = .returned (.tuple #[polyE (m : Int) (.slice (some ⟨g, 0, none⟩) l.length l.length), .bool true]) ∧ w.heap.size ≤ g ∧ Blk w' g l.length ∧ Els w' g (m : Int) (cfs l) l.length ∧ Below w.heap.size w w') := Lib.hid (validPoly_yes (m : Int) v l w h hv hg)
  have HN := Lib.hid (fun g w' (hg1 : g < w'.heap.size) (he : Els w' g (m : Int) (cfs l) l.length) => hasNoSquareE m g l.length l w' h hg1 he (pg_good h hg))
  clear hg hv h
  generalize hns m l = r at *
  generalize cfs l = f at *
  generalize l.length = n at *
  go_enter Try.func17, Try.ntmps17
  go_wp2_with fail
  refine HP.out.mono ?_
  rintro e w1 ⟨g, rfl, _, hk1, he1, hb1⟩
  have hgl := hk1.lt
  have HE := Lib.hid he1
  have HB1 := Lib.hid hb1; clear hb1 he1 hk1
  go_wp2_with fail
  refine (HN.out g _ (by simp; omega) (HE.out.below (B := w1.heap.size) (by (repeat' (first | (with_reducible assumption) | (with_reducible exact Below.refl _ _) | (with_reducible refine below_drewN ?_ _) | (with_reducible refine Below.drew ?_) | (with_reducible refine Below.alloc ?_ ?_ _) | (with_reducible refine Below.setCell ?_ ?_ _) | (with_reducible refine Below.trans ?_ (Below.mono (by assumption) ?_)) | (with_reducible exact Nat.le_refl _) | (with_reducible assumption) | omega | (simp; omega) | (simp; done)))) hgl)).mono ?_
  rintro e w2 ⟨rfl, hb2⟩
  have hz2 := hb2.size
  simp at hz2
  have HB2 := Lib.hid hb2; clear hb2
  go_wp2
  go_ret2
  have hb1 := HB1.out
  have hz1 := hb1.size
  have hb2 := HB2.out
  exact ⟨rfl, by (repeat' (first | (with_reducible assumption) | (with_reducible exact Below.refl _ _) | (with_reducible refine below_drewN ?_ _) | (with_reducible refine Below.drew ?_) | (with_reducible refine Below.alloc ?_ ?_ _) | (with_reducible refine Below.setCell ?_ ?_ _) | (with_reducible refine Below.trans ?_ (Below.mono (by assumption) ?_)) | (with_reducible exact Nat.le_refl _) | (with_reducible assumption) | omega | (simp; omega) | (simp; done)))⟩
theorem key_HasNoSquare (q : Int) (l_f : List Int) (b_f : l_f.length ≤ 1048576) : ∃ (r : Bool) (o : Bool), (∀ (w : World) (v_f : Value) (_ : Sl w v_f l_f), Calls Try.prog 16 #[.int .i64 q, v_f] w fun e w' => e = .returned (.tuple #[.bool r, .bool o]) ∧ Below w.heap.size w w') ∧
      (∀ (w : World) (v_f : Value) (_ : Sl w v_f l_f), Calls Try.prog 17 #[.int .i64 q, v_f] w fun e w' => e = .returned (.tuple #[.bool r, .bool o]) ∧ Below w.heap.size w w') := by
  cases h : isSz q && good q l_f with
  | false => exact ⟨false, false, fun w v hv => spec_HasNoSquare_no q v l_f w hv b_f h, fun w v hv => impl_HasNoSquare_no q v l_f w hv b_f h⟩
  | true =>
    simp only [Bool.and_eq_true] at h
    have hq := isSz_le q h.1
    obtain ⟨m, rfl⟩ := Int.eq_ofNat_of_zero_le (show 0 ≤ q by omega)
    exact ⟨_, true, fun w v hv => spec_HasNoSquare_yes m v l_f w h.1 hv h.2, fun w v hv => impl_HasNoSquare_yes m v l_f w h.1 hv h.2⟩
set_option maxRecDepth 100000 in
set_option maxHeartbeats 4000000 in
/-- laws.FnExactHasNoSquare. -/
theorem walk_FnExactHasNoSquare (q : Int) (a_f : Option Addr) (n_f c_f : Nat) (z_f : List Int) (w : World) (_h_q : (Lit.int .i64 q).wf = true) (h_f : IsRow .i64 w a_f n_f c_f z_f) :
    Calls Try.prog 5 #[.int .i64 q, .slice a_f n_f c_f] w fun e w' => e = .returned (.bool true) ∧ Below w.heap.size w w' := by
  clear _h_q
  obtain ⟨hs_f, hl_f, _⟩ := h_f.sl
  generalize z_f.take n_f = l_f at *
  clear h_f
  subst hl_f
  by_cases b_f : l_f.length ≤ 1048576
  rotate_left
  · have hn_f : (1048576 : Int) < (l_f.length : Int) := by omega
    go_enter Try.func5, Try.ntmps5
    go_wp2
    go_ret
    exact ⟨rfl, Below.refl _ _⟩
  have hn_f : ¬ (1048576 : Int) < (l_f.length : Int) := by omega
  obtain ⟨r, o, k1, k2⟩ := key_HasNoSquare q l_f b_f
  have K1 := Lib.hid k1; clear k1
  have K2 := Lib.hid k2; clear k2
  have HS_f := Lib.hid hs_f; clear hs_f
  have HB0 : Hid (Below w.heap.size w w) := Lib.hid (Below.refl _ _)
  go_enter Try.func5, Try.ntmps5
  go_wp2_with fail
  refine (toIntS_any _ l_f _ (HS_f.out.below HB0.out (Nat.le_refl _)) b_f).mono ?_
  rintro e w1 ⟨v_s_f, rfl, hrw1, hbw1⟩
  have hzw1 : w.heap.size ≤ w1.heap.size := hbw1.size
  have HBw1 : Hid (Below w.heap.size w w1) := Lib.hid (HB0.out.trans (hbw1.mono HB0.out.size))
  have hww1 := HBw1.out.size
  clear hbw1 HB0
  have R_s_f_w1 := Lib.hid hrw1; clear hrw1
  have lt_s_f : Hid (∀ g, v_s_f.ownBlock = some g → w.heap.size ≤ g ∧ g < w1.heap.size) := Lib.hid R_s_f_w1.out.lt
  go_wp2_with fail
  refine (K1.out _ v_s_f R_s_f_w1.out.sl).mono ?_
  rintro e w2 ⟨rfl, hbw2⟩
  have hzw2 : w1.heap.size ≤ w2.heap.size := hbw2.size
  have R_s_f_w2 := Lib.hid (R_s_f_w1.out.below hbw2)
  clear R_s_f_w1
  have HBw2 : Hid (Below w.heap.size w w2) := Lib.hid (HBw1.out.trans (hbw2.mono HBw1.out.size))
  have hww2 := HBw2.out.size
  clear hbw2 HBw1
  clear R_s_f_w2 lt_s_f
  go_wp2_with fail
  refine (toIntS_any _ l_f _ (HS_f.out.below HBw2.out (Nat.le_refl _)) b_f).mono ?_
  rintro e w3 ⟨v_x_f, rfl, hrw3, hbw3⟩
  have hzw3 : w2.heap.size ≤ w3.heap.size := hbw3.size
  have HBw3 : Hid (Below w.heap.size w w3) := Lib.hid (HBw2.out.trans (hbw3.mono HBw2.out.size))
  have hww3 := HBw3.out.size
  clear hbw3 HBw2
  have R_x_f_w3 := Lib.hid hrw3; clear hrw3
  have lt_x_f : Hid (∀ g, v_x_f.ownBlock = some g → w2.heap.size ≤ g ∧ g < w3.heap.size) := Lib.hid R_x_f_w3.out.lt
  go_wp2_with fail
  refine (K2.out _ v_x_f R_x_f_w3.out.sl).mono ?_
  rintro e w4 ⟨rfl, hbw4⟩
  have hzw4 : w3.heap.size ≤ w4.heap.size := hbw4.size
  have R_x_f_w4 := Lib.hid (R_x_f_w3.out.below hbw4)
  clear R_x_f_w3
  have HBw4 : Hid (Below w.heap.size w w4) := Lib.hid (HBw3.out.trans (hbw4.mono HBw3.out.size))
  have hww4 := HBw4.out.size
  clear hbw4 HBw3
  go_wp2_with fail
  refine (toIntS_any _ l_f _ (HS_f.out.below HBw4.out (Nat.le_refl _)) b_f).mono ?_
  rintro e w5 ⟨v_y_f, rfl, hrw5, hbw5⟩
  have hzw5 : w4.heap.size ≤ w5.heap.size := hbw5.size
  have R_x_f_w5 := Lib.hid (R_x_f_w4.out.below hbw5)
  clear R_x_f_w4
  have HBw5 : Hid (Below w.heap.size w w5) := Lib.hid (HBw4.out.trans (hbw5.mono HBw4.out.size))
  have hww5 := HBw5.out.size
  clear hbw5 HBw4
  have R_y_f_w5 := Lib.hid hrw5; clear hrw5
  have lt_y_f : Hid (∀ g, v_y_f.ownBlock = some g → w4.heap.size ≤ g ∧ g < w5.heap.size) := Lib.hid R_y_f_w5.out.lt
  go_wp2_with fail
  refine (eq_same v_x_f v_y_f l_f _ _ _ R_x_f_w5.out R_y_f_w5.out (by omega)).mono ?_
  rintro e w6 ⟨rfl, hbw6⟩
  have hzw6 : w5.heap.size ≤ w6.heap.size := hbw6.size
  have R_x_f_w6 := Lib.hid (R_x_f_w5.out.below hbw6)
  clear R_x_f_w5
  have R_y_f_w6 := Lib.hid (R_y_f_w5.out.below hbw6)
  clear R_y_f_w5
  have HBw6 : Hid (Below w.heap.size w w6) := Lib.hid (HBw5.out.trans (hbw6.mono HBw5.out.size))
  have hww6 := HBw6.out.size
  clear hbw6 HBw5
  clear R_y_f_w6 lt_y_f
  go_wp2
  go_ret
  exact ⟨rfl, HBw6.out⟩
end Go.Proofs.Ytlhcokblbkiafab
