/- Powers of the prime, and the polynomials with terms there alone: impl.field.primePowers, slices.Contains of numbers, impl.poly.isAdditiveFrom, isAdditive, isMoved, impl.validAdditive, by contracts. -/
import Derived.Test.YtgndlpdcebmgmacRA
import Derived.Test.YtgndlpdcebmgmacKP
import Derived.Test.YtgndlpdcebmgmacKL
namespace Go.Proofs.Ytgndlpdcebmgmac
open Go.RowKit
/-- The powers of the prime, as numbers. -/
def ppf (q : Int) : Nat → Int := fun i => (pp q i : Int)
theorem ppf_succ {q : Int} (h : isSz q = true) (i : Nat) : ppf q i * pr q = ppf q (i + 1) := by
  have hp := pr_bd q h
  show ((pr q).toNat ^ i : Nat) * pr q = (((pr q).toNat ^ (i + 1) : Nat) : Int)
  rw [Nat.pow_succ, Int.natCast_mul, Int.toNat_of_nonneg (by omega)]
theorem ppf_bd {q : Int} (h : isSz q = true) (i : Nat) (hi : i ≤ plN q) : 1 ≤ ppf q i ∧ ppf q i ≤ 16 := by
  have hq := isSz_le q h
  have hc := of_chk1 (f := fun q _ => (List.range (plN q + 1)).all fun i => decide (1 ≤ ppf q i ∧ ppf q i ≤ 16)) (by decide +kernel) q 0 h (by omega) (by omega)
  exact of_decide_eq_true (List.all_eq_true.1 hc i (List.mem_range.2 (by omega)))
theorem ppf_has (q : Int) (j : Nat) : (fl (ppf q) (plN q)).contains (j : Int) = isPw q j := by
  apply bool_ext
  unfold isPw fl
  rw [List.contains_iff_mem, List.mem_map, List.any_eq_true]
  constructor
  · rintro ⟨i, hi, e⟩
    have e' : ((pp q i : Nat) : Int) = (j : Int) := e
    exact ⟨i, hi, beq_iff_eq.2 (by omega)⟩
  · rintro ⟨i, hi, e⟩
    have e' := eq_of_beq e
    exact ⟨i, hi, by show ((pp q i : Nat) : Int) = (j : Int); omega⟩
set_option maxHeartbeats 2000000 in
/-- impl.field.primePower. -/
theorem primePowerE (q : Int) (i : Nat) (w : World) (h : isSz q = true) (hin : i ≤ plN q) :
    Calls Try.prog 114 #[fdE q, .int .i64 i] w fun e w' => e = .returned (.int .i64 (ppf q i)) ∧ Below w.heap.size w w' := by
  have hk := plN_bd q h
  have hp := pr_bd q h
  have HS := Lib.hid (ppf_succ h)
  have HB := Lib.hid (ppf_bd h)
  have hp1 : ppf q 0 = 1 := by show ((1 : Nat) : Int) = 1; rfl
  generalize hmm : plN q = k at *
  clear hmm h
  obtain ⟨hk1, hk4⟩ := hk
  have HF : Hid ((w.alloc (ffblk q)).heap[w.heap.size]? = some (ffblk q)) := Lib.hid (heap_alloc_new w _)
  go_enter Try.func114, Try.ntmps114
  go_wp2_with fail
  go_loopw [5, 7] (fun vp vj wr => ∃ j : Nat, j ≤ i ∧ vj = .int .i64 j ∧ vp = .int .i64 (ppf q j) ∧ w.alloc (ffblk q) = wr) (fun _ vj _ => i - (intOf vj).toNat)
  case atStart => exact ⟨0, Nat.zero_le _, rfl, by rw [hp1], rfl⟩
  case round =>
    obtain ⟨j, hj, rfl, rfl, rfl⟩ := hrel
    obtain ⟨x0, x1, x2, _⟩ := cells3' HF.out
    by_cases hlt : j < i
    · have b1 := HB.out j (by omega)
      have b2 := HB.out (j + 1) (by omega)
      have s1 := HS.out j
      obtain ⟨y, hy⟩ : ∃ y, ppf q (j + 1) = y := ⟨_, rfl⟩
      rw [hy] at b2 s1
      have HY := Lib.hid hy
      clear hy
      generalize ppf q j = x at *
      have h1 : IntKind.i64.wrap y = y := IntWalk.i64_in _ (by omega)
      go_wp2
      go_roundw
      case rel => exact ⟨j + 1, by omega, by go_num, by rw [HY.out], by first | rfl | trivial⟩
      case measure => (simp [intOf]; try omega)
    · obtain rfl : i = j := by omega
      go_wp2
      go_ret
      exact ⟨rfl, by (repeat' (first | (with_reducible assumption) | (with_reducible exact Below.refl _ _) | (with_reducible refine below_drewN ?_ _) | (with_reducible refine Below.drew ?_) | (with_reducible refine Below.alloc ?_ ?_ _) | (with_reducible refine Below.setCell ?_ ?_ _) | (with_reducible refine Below.trans ?_ (Below.mono (by assumption) ?_)) | (with_reducible exact Nat.le_refl _) | (with_reducible assumption) | omega | (simp; omega) | (simp; done)))⟩
set_option maxHeartbeats 1000000 in
/-- impl.listOf at impl.mapped[impl.element,int]$1. -/
theorem listOf_PW (q : Int) (n : Nat) (f : Nat → Int) (w : World) (hn : n ≤ 1000) (HX : ∀ (i : Nat) w', i < n → Below w.heap.size w w' → Calls Try.prog 114 #[fdE q, .int .i64 i] w' fun e w'' => e = .returned (.int .i64 (f i)) ∧ Below w'.heap.size w' w'') :
    Calls Try.prog 99 #[.int .i64 n, .func (.func 114) #[fdE q] #[]] w fun e w' => ∃ g, e = .returned (.slice (some ⟨g, 0, none⟩) n n) ∧ w.heap.size ≤ g ∧ g < w'.heap.size ∧ Row w' w.heap.size (.slice (some ⟨g, 0, none⟩) n n) (fl f n) ∧ Below w.heap.size w w' := by
  obtain ⟨i0, hi, iz0, iz1, iz2⟩ := info_parts Try.infoI
  have HXX := Lib.hid HX; clear HX
  go_enter Try.func99, Try.ntmps99
  go_wp2_with (at_make; refine wpList_make_full _ rfl _ _ 22 rfl w.heap.size 3 i0 (.int .i64 0) 1 Try.underlying22 hi iz0 iz1 .i64 .i64 _ _ n rfl rfl rfl rfl ?c3 ?c4 ?c5 ?_)
  case c3 => rw [iz2]; omega
  case c4 => unfold maxLen; omega
  case c5 => omega
  intro w1 hown hgrow
  have HR := Lib.hid (Row.madeF f hown)
  have HB := Lib.hid ((Below.refl w.heap.size w).grown hgrow (Nat.le_refl _) (fun k hk => by cases hk))
  clear hown hgrow
  go_wp2_with fail
  go_loopw [11] (fun vi wr => ∃ i : Nat, i ≤ n ∧ vi = .int .i64 i ∧ Row wr w.heap.size (.slice (some ⟨w.heap.size, 0, none⟩) n n) (fl (part0 f i) n) ∧ w.heap.size < wr.heap.size ∧ Below w.heap.size w wr) (fun vi _ => n - (intOf vi).toNat)
  case atStart =>
    refine ⟨0, Nat.zero_le _, rfl, HR.out, ?_, HB.out⟩
    have := HR.out.lt w.heap.size rfl
    omega
  case round =>
    obtain ⟨i, hi, rfl, hr, hgl, hbel⟩ := hrel
    by_cases hlt : i < n
    · have HX' := Lib.hid (HXX.out i _ hlt hbel)
      have HR := Lib.hid hr; clear hr
      have HBL := Lib.hid hbel; clear hbel
      go_wp2_with fail
      refine HX'.out.mono ?_
      rintro e w2 ⟨rfl, hb2⟩
      have hr := HR.out.below hb2
      have HB2 := Lib.hid (HBL.out.trans (hb2.mono HBL.out.size))
      have hgl2 : w.heap.size < w2.heap.size := by have := hb2.size; omega
      clear hb2
      have e2 := Row.cell (l := fl (part0 f i) n) (cap := n) (by rw [fl_len]; exact hr) i (by rw [fl_len]; exact hlt)
      have f2 := hr.frozen (by rw [fl_len]) i
      have HR' := Lib.hid (hr.store (by rw [fl_len]) i (f i))
      clear hr
      generalize (fl (part0 f i) n).getD i 0 = u at *
      have HS := Lib.hid (part0_step f i)
      generalize f i = x at *
      go_wp2
      go_roundw
      case rel =>
        refine ⟨i + 1, by omega, by go_num, ?_, by simpa using hgl2, HB2.out.setCell (Nat.le_refl _) _⟩
        rw [← HS.out, ← fl_set]
        exact HR'.out
      case measure => simp [intOf]; omega
    · obtain rfl : n = i := by omega
      go_wp2
      go_ret
      refine ⟨_, rfl, Nat.le_refl _, hgl, ?_, hbel⟩
      rw [← part0_all]
      exact hr

set_option maxRecDepth 100000 in
set_option maxHeartbeats 2000000 in
/-- impl.field.primePowers. -/
theorem primePowersE (q : Int) (w : World) (h : isSz q = true) :
    Calls Try.prog 88 #[fdE q] w fun e w' => ∃ g, e = .returned (.slice (some ⟨g, 0, none⟩) (plN q) (plN q)) ∧ w.heap.size ≤ g ∧ g < w'.heap.size ∧ Row w' w.heap.size (.slice (some ⟨g, 0, none⟩) (plN q) (plN q)) (fl (ppf q) (plN q)) ∧ Below w.heap.size w w' := by
  have hk := plN_bd q h
  have hm : pl q = ((plN q : Nat) : Int) := rfl
  have HL := Lib.hid (fun w => listOf_PW q (plN q) (ppf q) w (by omega) (fun i w' hi _ => primePowerE q i w' h (by omega)))
  clear h
  generalize plN q = k at *
  rw [← hm] at HL
  clear hm
  go_enter Try.func88, Try.ntmps88
  go_wp2_with fail
  refine (HL.out _).mono ?_
  rintro e w1 ⟨g, rfl, hg, hgl, hr1, hb1⟩
  have HR1 := Lib.hid hr1
  have HB1 : Hid (Below w.heap.size w w1) := Lib.hid (by (repeat' (first | (with_reducible assumption) | (with_reducible exact Below.refl _ _) | (with_reducible refine below_drewN ?_ _) | (with_reducible refine Below.drew ?_) | (with_reducible refine Below.alloc ?_ ?_ _) | (with_reducible refine Below.setCell ?_ ?_ _) | (with_reducible refine Below.trans ?_ (Below.mono (by assumption) ?_)) | (with_reducible exact Nat.le_refl _) | (with_reducible assumption) | omega | (simp; omega) | (simp; done))))
  simp at hg
  clear hr1 hb1
  go_wp2
  go_ret
  exact ⟨_, rfl, by omega, hgl, HR1.out.mono (by first | omega | (simp; done) | (simp; omega)), HB1.out⟩
set_option maxHeartbeats 1000000 in
/-- slices.Index of a number. -/
theorem indexI (v : Value) (l : List Int) (x : Int) (w : World) (hv : Sl w v l) (hl : l.length ≤ 1000) :
    Calls Try.prog 115 #[v, .int .i64 x] w fun e w' => ∃ d : Int, e = .returned (.int .i64 d) ∧ ((d = -1 ∧ ∀ j, j < l.length → l.getD j 0 ≠ x) ∨ ∃ k : Nat, k < l.length ∧ d = k ∧ l.getD k 0 = x) ∧ w = w' := by
  by_cases h0 : 0 < l.length
  · obtain ⟨b, off, cap, rfl, hb, hc⟩ := hv.open rfl h0
    have HC := Lib.hid hc
    clear hc hv
    generalize l.length = n at *
    go_enter Try.func115, Try.ntmps115
    go_wp2_with fail
    go_loopw [8] (fun vi wr => ∃ k : Nat, k ≤ n ∧ vi = .int .i64 k ∧ (∀ j, j < k → l.getD j 0 ≠ x) ∧ wr = w) (fun vi _ => n - (intOf vi).toNat)
    case atStart => exact ⟨0, Nat.zero_le _, rfl, fun j hj => absurd hj (Nat.not_lt_zero _), rfl⟩
    case round =>
      obtain ⟨k, hk, rfl, hno, rfl⟩ := hrel
      have HNO := Lib.hid hno; clear hno
      by_cases hlt : k < n
      · have hcell := HC.out k hlt
        obtain ⟨y, hy⟩ : ∃ y, l.getD k 0 = y := ⟨_, rfl⟩
        rw [hy] at hcell
        have HY := Lib.hid hy; clear hy
        by_cases hxy : x = y
        · subst hxy
          go_wp2
          go_ret
          exact ⟨_, rfl, .inr ⟨k, hlt, rfl, HY.out⟩, rfl⟩
        · have hxy' : (x == y) = false := by simpa using hxy
          have HN : Hid (l.getD k 0 ≠ x) := Lib.hid (by rw [HY.out]; exact fun e => hxy e.symm)
          clear hxy
          go_wp2
          go_roundw
          case rel =>
            refine ⟨k + 1, by omega, by go_num, ?_, by first | rfl | trivial⟩
            intro j hj
            by_cases e : j = k
            · subst e
              exact HN.out
            · exact HNO.out j (by omega)
          case measure => simp [intOf]; omega
      · obtain rfl : n = k := by omega
        go_wp2
        go_ret
        exact ⟨_, rfl, .inl ⟨rfl, HNO.out⟩, rfl⟩
  · obtain rfl : l = [] := List.length_eq_zero_iff.1 (by omega)
    obtain ⟨a, cap, rfl⟩ := hv.empty
    go_enter Try.func115, Try.ntmps115
    go_wp2_with fail
    go_loopw [8] (fun vi wr => vi = .int .i64 0 ∧ wr = w) (fun _ _ => 0)
    case atStart => exact ⟨rfl, rfl⟩
    case round =>
      obtain ⟨rfl, rfl⟩ := hrel
      go_wp2
      go_ret
      exact ⟨_, rfl, .inl ⟨rfl, fun j hj => absurd hj (Nat.not_lt_zero _)⟩, rfl⟩
set_option maxHeartbeats 1000000 in
/-- slices.Contains of a number. -/
theorem containsI (v : Value) (l : List Int) (x : Int) (w : World) (hv : Sl w v l) (hl : l.length ≤ 1000) :
    Calls Try.prog 90 #[v, .int .i64 x] w fun e w' => e = .returned (.bool (l.contains x)) ∧ w = w' := by
  have HI := Lib.hid (indexI v l x w hv hl)
  have HY : Hid (∀ k, k < l.length → l.getD k 0 = x → l.contains x = true) := Lib.hid fun k hk e => by
    rw [List.contains_iff_mem, ← e, List.getD, List.getElem?_eq_getElem hk]
    exact List.getElem_mem hk
  have HN : Hid ((∀ j, j < l.length → l.getD j 0 ≠ x) → l.contains x = false) := Lib.hid fun hh => by
    rw [← Bool.not_eq_true, List.contains_iff_mem]
    intro hm
    obtain ⟨j, hj, e⟩ := List.getElem_of_mem hm
    exact hh j hj (by rw [List.getD, List.getElem?_eq_getElem hj]; exact e)
  obtain ⟨a, cap, rfl⟩ := hv.form
  clear hv
  generalize l.contains x = r at *
  generalize l.length = n at *
  go_enter Try.func90, Try.ntmps90
  go_wp2_with fail
  refine HI.out.mono ?_
  rintro e w2 ⟨d, rfl, hd, rfl⟩
  rcases hd with ⟨rfl, hno⟩ | ⟨k, hk, rfl, hkk⟩
  · have HR : Hid (r = false) := Lib.hid (HN.out hno)
    clear hno
    go_wp2
    go_ret
    exact ⟨ret_bool (by rw [HR.out]; try rfl), rfl⟩
  · have HR : Hid (r = true) := Lib.hid (HY.out k hk hkk)
    clear hkk
    go_wp2
    go_ret
    exact ⟨ret_bool (by rw [HR.out]; try simp), rfl⟩
set_option maxRecDepth 100000 in
set_option maxHeartbeats 4000000 in
/-- impl.poly.isAdditiveFrom. -/
theorem isAdditiveFromE (m s n : Nat) (v : Value) (f : Nat → Int) (w : World) (h : isSz (m : Int) = true) (hv : Se w v (m : Int) f n) (hf : ∀ i, El (m : Int) (f i)) (hn : n ≤ 1000) :
    Calls Try.prog 63 #[polyE (m : Int) v, .int .i64 s] w fun e w' => e = .returned (.bool (adC m f s n)) ∧ Below w.heap.size w w' := by
  have hq := isSz_le (m : Int) h
  obtain ⟨g, cap, rfl, hg, he⟩ := hv
  have HP := Lib.hid (fun w => primePowersE (m : Int) w h)
  have HZ := Lib.hid (fun (i : Nat) w => isZeroE (m : Int) (f i) w h (hf i).1 (hf i).2)
  have HEL := Lib.hid (fun wr (hb : Below w.heap.size w wr) => he.below hb hg)
  have hkb := plN_bd (m : Int) h
  have HC := Lib.hid (fun (j : Nat) (v : Value) w (hvv : Sl w v (fl (ppf (m : Int)) (plN (m : Int)))) => by
    have := containsI v _ (j : Int) w hvv (by rw [fl_len]; omega)
    rw [ppf_has] at this
    exact this)
  have HALL := Lib.hid (adC_all (q := (m : Int)) (f := f) (s := s) (n := n))
  clear h he hf
  generalize adC (m : Int) f s n = ans at *
  have HYES : Hid ((∀ j, j < n → s ≤ j → f j = 0 ∨ isPw (m : Int) j = true) → ans = true) := Lib.hid HALL.out.2
  have HNO : Hid (∀ j, j < n → s ≤ j → f j ≠ 0 → isPw (m : Int) j = false → ans = false) := Lib.hid fun j hj h2 h0 h1 => by
    cases e : ans with
    | false => rfl
    | true =>
      rcases HALL.out.1 e j hj h2 with h3 | h3
      · exact absurd h3 h0
      · rw [h1] at h3; cases h3
  clear HALL
  go_enter Try.func63, Try.ntmps63
  go_wp2_with fail
  refine (HP.out _).mono ?_
  rintro e w1 ⟨gp, rfl, hgp, hgpl, hrp, hb1⟩
  have HPB : Hid (w1.heap[w.heap.size]? = some (pblk (m : Int) (.slice (some ⟨g, 0, none⟩) n cap))) := Lib.hid ((hb1.block _ (by simp)).trans (heap_alloc_new w _))
  have HRP := Lib.hid hrp; clear hrp
  have l1 : w.heap.size < w1.heap.size := by have := hb1.size; simp at this; omega
  have HB1 : Hid (Below w.heap.size w w1) := Lib.hid (by (repeat' (first | (with_reducible assumption) | (with_reducible exact Below.refl _ _) | (with_reducible refine below_drewN ?_ _) | (with_reducible refine Below.drew ?_) | (with_reducible refine Below.alloc ?_ ?_ _) | (with_reducible refine Below.setCell ?_ ?_ _) | (with_reducible refine Below.trans ?_ (Below.mono (by assumption) ?_)) | (with_reducible exact Nat.le_refl _) | (with_reducible assumption) | omega | (simp; omega) | (simp; done))))
  clear hb1
  generalize hkk : plN (m : Int) = k at *
  go_wp2_with fail
  go_loopw [6] (fun vi wr => ∃ i : Nat, s ≤ i ∧ (i ≤ n ∨ i = s) ∧ vi = .int .i64 i ∧ (∀ j, j < i → s ≤ j → f j = 0 ∨ isPw (m : Int) j = true) ∧ Below w1.heap.size w1 wr) (fun vi _ => n - (intOf vi).toNat)
  case atStart => exact ⟨s, Nat.le_refl _, .inr rfl, rfl, fun j h1 h2 => by omega, Below.refl _ _⟩
  case round =>
    obtain ⟨i, hsi, hin, rfl, hok, hbw⟩ := hrel
    have HOK := Lib.hid hok; clear hok
    have hsz := hbw.size
    obtain ⟨x0, x1, x2, x3, _⟩ := cells4 ((hbw.block _ l1).trans HPB.out)
    have HRr := Lib.hid (HRP.out.below hbw)
    have HBW := Lib.hid hbw; clear hbw
    have HBB : Hid (Below w.heap.size w wr) := Lib.hid (HB1.out.trans (HBW.out.mono (by omega)))
    by_cases hlt : i < n
    · obtain ⟨c0, c1, c2, c3, c4, c5, c6⟩ := (HEL.out _ HBB.out) i hlt
      have HZ' := Lib.hid (fun w => HZ.out i w)
      have hgl : g < wr.heap.size := by have := HBB.out.size; omega
      have HC' := Lib.hid (fun w (hv : Sl w _ _) => HC.out i (.slice (some ⟨gp, 0, none⟩) k k) w hv)
      have HSTEP : Hid (f i = 0 ∨ isPw (m : Int) i = true → ∀ j, j < i + 1 → s ≤ j → f j = 0 ∨ isPw (m : Int) j = true) := Lib.hid fun hh j h1 h2 => by
        by_cases e : j = i
        · subst e; exact hh
        · exact HOK.out j (by omega) h2
      have HNOi := Lib.hid (HNO.out i hlt hsi)
      generalize isPw (m : Int) i = pwb at *
      by_cases hz : f i = 0
      · have HG := Lib.hid (HSTEP.out (.inl hz))
        have hd : decide (f i = 0) = true := by simpa using hz
        rw [hd] at HZ'
        clear HSTEP HNOi hz hd
        generalize f i = x at *
        go_wp2_with fail
        refine (HZ'.out _).mono ?_
        rintro e w3 ⟨rfl, hb3⟩
        have HB3 : Hid (Below w1.heap.size w1 w3) := Lib.hid (by have hbw := HBW.out; (repeat' (first | (with_reducible assumption) | (with_reducible exact Below.refl _ _) | (with_reducible refine below_drewN ?_ _) | (with_reducible refine Below.drew ?_) | (with_reducible refine Below.alloc ?_ ?_ _) | (with_reducible refine Below.setCell ?_ ?_ _) | (with_reducible refine Below.trans ?_ (Below.mono (by assumption) ?_)) | (with_reducible exact Nat.le_refl _) | (with_reducible assumption) | omega | (simp; omega) | (simp; done))))
        clear hb3
        go_wp2
        go_roundw
        case rel => exact ⟨i + 1, by omega, .inl (by omega), by go_num, HG.out, HB3.out⟩
        case measure => simp [intOf]; omega
      · have hd : decide (f i = 0) = false := by simpa using hz
        rw [hd] at HZ'
        have HNZ := Lib.hid hz
        clear hz hd
        cases hpw : pwb with
        | true =>
          rw [hpw] at HC'
          have HG := Lib.hid (HSTEP.out (.inr hpw))
          clear HSTEP HNOi hpw HNZ
          generalize f i = x at *
          go_wp2_with fail
          refine (HZ'.out _).mono ?_
          rintro e w3 ⟨rfl, hb3⟩
          have HR3 := Lib.hid (HRr.out.below (w' := w3) (by (repeat' (first | (with_reducible assumption) | (with_reducible exact Below.refl _ _) | (with_reducible refine below_drewN ?_ _) | (with_reducible refine Below.drew ?_) | (with_reducible refine Below.alloc ?_ ?_ _) | (with_reducible refine Below.setCell ?_ ?_ _) | (with_reducible refine Below.trans ?_ (Below.mono (by assumption) ?_)) | (with_reducible exact Nat.le_refl _) | (with_reducible assumption) | omega | (simp; omega) | (simp; done)))))
          have HB3 : Hid (Below w1.heap.size w1 w3) := Lib.hid (by have hbw := HBW.out; (repeat' (first | (with_reducible assumption) | (with_reducible exact Below.refl _ _) | (with_reducible refine below_drewN ?_ _) | (with_reducible refine Below.drew ?_) | (with_reducible refine Below.alloc ?_ ?_ _) | (with_reducible refine Below.setCell ?_ ?_ _) | (with_reducible refine Below.trans ?_ (Below.mono (by assumption) ?_)) | (with_reducible exact Nat.le_refl _) | (with_reducible assumption) | omega | (simp; omega) | (simp; done))))
          clear hb3
          go_wp2_with fail
          refine (HC'.out _ HR3.out.sl).mono ?_
          rintro e w4 ⟨rfl, rfl⟩
          go_wp2
          go_roundw
          case rel => exact ⟨i + 1, by omega, .inl (by omega), by go_num, HG.out, HB3.out⟩
          case measure => simp [intOf]; omega
        | false =>
          rw [hpw] at HC'
          have HG := Lib.hid (HNOi.out HNZ.out hpw)
          clear HSTEP HNOi hpw HNZ
          generalize f i = x at *
          go_wp2_with fail
          refine (HZ'.out _).mono ?_
          rintro e w3 ⟨rfl, hb3⟩
          have HR3 := Lib.hid (HRr.out.below (w' := w3) (by (repeat' (first | (with_reducible assumption) | (with_reducible exact Below.refl _ _) | (with_reducible refine below_drewN ?_ _) | (with_reducible refine Below.drew ?_) | (with_reducible refine Below.alloc ?_ ?_ _) | (with_reducible refine Below.setCell ?_ ?_ _) | (with_reducible refine Below.trans ?_ (Below.mono (by assumption) ?_)) | (with_reducible exact Nat.le_refl _) | (with_reducible assumption) | omega | (simp; omega) | (simp; done)))))
          have HB3 : Hid (Below w1.heap.size w1 w3) := Lib.hid (by have hbw := HBW.out; (repeat' (first | (with_reducible assumption) | (with_reducible exact Below.refl _ _) | (with_reducible refine below_drewN ?_ _) | (with_reducible refine Below.drew ?_) | (with_reducible refine Below.alloc ?_ ?_ _) | (with_reducible refine Below.setCell ?_ ?_ _) | (with_reducible refine Below.trans ?_ (Below.mono (by assumption) ?_)) | (with_reducible exact Nat.le_refl _) | (with_reducible assumption) | omega | (simp; omega) | (simp; done))))
          clear hb3
          go_wp2_with fail
          refine (HC'.out _ HR3.out.sl).mono ?_
          rintro e w4 ⟨rfl, rfl⟩
          go_wp2
          go_ret
          exact ⟨by (rw [HG.out]; try rfl), HB1.out.trans (HB3.out.mono (by omega))⟩
    · have HG : Hid (ans = true) := Lib.hid (HYES.out fun j h1 h2 => HOK.out j (by omega) h2)
      go_wp2
      go_ret
      exact ⟨by (rw [HG.out]; try rfl), HBB.out⟩
/-- impl.poly.isAdditive. -/
theorem isAdditiveE (m n : Nat) (v : Value) (f : Nat → Int) (w : World) (h : isSz (m : Int) = true) (hv : Se w v (m : Int) f n) (hf : ∀ i, El (m : Int) (f i)) (hn : n ≤ 1000) :
    Calls Try.prog 37 #[polyE (m : Int) v] w fun e w' => e = .returned (.bool (adC m f 0 n)) ∧ Below w.heap.size w w' := by
  have HF := Lib.hid (fun w' (hb : Below w.heap.size w w') => isAdditiveFromE m 0 n v f w' h (hv.below hb (Nat.le_refl _)) hf hn)
  obtain ⟨g, cap, rfl, hg, he⟩ := hv
  clear h hf he
  go_enter Try.func37, Try.ntmps37
  go_wp2_with fail
  refine (HF.out _ (by (repeat' (first | (with_reducible assumption) | (with_reducible exact Below.refl _ _) | (with_reducible refine below_drewN ?_ _) | (with_reducible refine Below.drew ?_) | (with_reducible refine Below.alloc ?_ ?_ _) | (with_reducible refine Below.setCell ?_ ?_ _) | (with_reducible refine Below.trans ?_ (Below.mono (by assumption) ?_)) | (with_reducible exact Nat.le_refl _) | (with_reducible assumption) | omega | (simp; omega) | (simp; done))))).mono ?_
  rintro e w1 ⟨rfl, hb1⟩
  have HB1 := Lib.hid hb1; clear hb1
  go_wp2
  go_ret
  exact ⟨rfl, by have hb1 := HB1.out; (repeat' (first | (with_reducible assumption) | (with_reducible exact Below.refl _ _) | (with_reducible refine below_drewN ?_ _) | (with_reducible refine Below.drew ?_) | (with_reducible refine Below.alloc ?_ ?_ _) | (with_reducible refine Below.setCell ?_ ?_ _) | (with_reducible refine Below.trans ?_ (Below.mono (by assumption) ?_)) | (with_reducible exact Nat.le_refl _) | (with_reducible assumption) | omega | (simp; omega) | (simp; done)))⟩
/-- A list that is an additive polynomial. -/
def addL (q : Int) (l : List Int) : Bool := (isSz q && good q l) && adC q (fun i => l.getD i 0) 0 l.length
set_option maxHeartbeats 2000000 in
theorem validAdditive_yes (m : Nat) (v : Value) (l : List Int) (w : World) (h : isSz (m : Int) = true) (hv : Sl w v l) (hg : good (m : Int) l = true) (ha : adC m (fun i => l.getD i 0) 0 l.length = true) :
    Calls Try.prog 27 #[.int .i64 m, v] w fun e w' => ∃ g, e = .returned (.tuple #[polyE (m : Int) (.slice (some ⟨g, 0, none⟩) l.length l.length), .bool true]) ∧ w.heap.size ≤ g ∧ g < w'.heap.size ∧ Els w' g (m : Int) (fun i => l.getD i 0) l.length ∧ Below w.heap.size w w' := by
  have hq := isSz_le (m : Int) h
  obtain ⟨hlen, hall⟩ := good_parts hg
  have HP := Lib.hid (fun w' (hb : Below w.heap.size w w') => validPoly_yes (m : Int) v l w' h (hv.below hb (Nat.le_refl _)) hg)
  have HF := Lib.hid (fun v w (hv : Se w v (m : Int) (fun i => l.getD i 0) l.length) => by
    have := isAdditiveE m l.length v (fun i => l.getD i 0) w h hv (all_el h hall) (by omega)
    rw [ha] at this
    exact this)
  clear h hv hg hall ha
  generalize (fun i => l.getD i 0) = f at *
  generalize l.length = n at *
  go_enter Try.func27, Try.ntmps27
  go_wp2_with fail
  refine (HP.out _ (by (repeat' (first | (with_reducible assumption) | (with_reducible exact Below.refl _ _) | (with_reducible refine below_drewN ?_ _) | (with_reducible refine Below.drew ?_) | (with_reducible refine Below.alloc ?_ ?_ _) | (with_reducible refine Below.setCell ?_ ?_ _) | (with_reducible refine Below.trans ?_ (Below.mono (by assumption) ?_)) | (with_reducible exact Nat.le_refl _) | (with_reducible assumption) | omega | (simp; omega) | (simp; done))))).mono ?_
  rintro e w1 ⟨g, rfl, hg, hk1, he1, hb1⟩
  have hgl := hk1.lt
  have HE1 := Lib.hid he1
  simp at hg
  have HZ1 : Hid (w1.heap[w.heap.size]? = some pzblk) := Lib.hid ((hb1.block _ (by simp)).trans (heap_alloc_new w _))
  have l1 : w.heap.size < w1.heap.size := by have := hb1.size; simp at this; omega
  clear hk1 he1
  obtain ⟨hc1, hf1⟩ := bcell hb1; have hz1 := hb1.size; (try simp at hz1); have HB1 := Lib.hid hb1; clear hb1
  go_wp2_with fail
  refine (HF.out (.slice (some ⟨g, 0, none⟩) n n) _ ⟨g, n, rfl, by simp; omega, HE1.out.below (B := w1.heap.size) (by (repeat' (first | (with_reducible assumption) | (with_reducible exact Below.refl _ _) | (with_reducible refine below_drewN ?_ _) | (with_reducible refine Below.drew ?_) | (with_reducible refine Below.alloc ?_ ?_ _) | (with_reducible refine Below.setCell ?_ ?_ _) | (with_reducible refine Below.trans ?_ (Below.mono (by assumption) ?_)) | (with_reducible exact Nat.le_refl _) | (with_reducible assumption) | omega | (simp; omega) | (simp; done)))) hgl⟩).mono ?_
  rintro e w2 ⟨rfl, hb2⟩
  have hb12 : Below w1.heap.size w1 w2 := by (repeat' (first | (with_reducible assumption) | (with_reducible exact Below.refl _ _) | (with_reducible refine below_drewN ?_ _) | (with_reducible refine Below.drew ?_) | (with_reducible refine Below.alloc ?_ ?_ _) | (with_reducible refine Below.setCell ?_ ?_ _) | (with_reducible refine Below.trans ?_ (Below.mono (by assumption) ?_)) | (with_reducible exact Nat.le_refl _) | (with_reducible assumption) | omega | (simp; omega) | (simp; done)))
  have HE2 := Lib.hid (HE1.out.below hb12 hgl)
  have HBW : Hid (Below w.heap.size w w2) := Lib.hid (by have hb1 := HB1.out; (repeat' (first | (with_reducible assumption) | (with_reducible exact Below.refl _ _) | (with_reducible refine below_drewN ?_ _) | (with_reducible refine Below.drew ?_) | (with_reducible refine Below.alloc ?_ ?_ _) | (with_reducible refine Below.setCell ?_ ?_ _) | (with_reducible refine Below.trans ?_ (Below.mono (by assumption) ?_)) | (with_reducible exact Nat.le_refl _) | (with_reducible assumption) | omega | (simp; omega) | (simp; done))))
  have h2 : w2.heap[w1.heap.size]? = some (pblk (m : Int) (.slice (some ⟨g, 0, none⟩) n n)) := (hb2.block _ (by simp)).trans (heap_alloc_new w1 _)
  obtain ⟨y0, y1, y2, y3, _⟩ := cells4 h2
  have h3 := (hb12.block _ l1).trans HZ1.out
  obtain ⟨z0, z1, z2, z3, zf, zl⟩ := cells4 h3
  have hz2 := hb12.size
  clear hb2 hb12 h2 h3
  go_wp2_with fail
  refine bodyPost_ret (v := .tuple #[polyE (m : Int) (.slice (some ⟨g, 0, none⟩) n n), .bool true]) (by simp [results, Try.results27, go_sem, z0, z1, z2, z3]) rfl ⟨g, rfl, by omega, by simp; omega, HE2.out.same (put4_other _ _ _ _ _ (by omega)), put4_below HBW.out _ (Nat.le_refl _) _ _⟩
set_option maxHeartbeats 2000000 in
theorem validAdditive_no2 (m : Nat) (v : Value) (l : List Int) (w : World) (h : isSz (m : Int) = true) (hv : Sl w v l) (hg : good (m : Int) l = true) (ha : adC m (fun i => l.getD i 0) 0 l.length = false) :
    Calls Try.prog 27 #[.int .i64 m, v] w fun e w' => e = .returned (.tuple #[polyZ, .bool false]) ∧ Below w.heap.size w w' := by
  have hq := isSz_le (m : Int) h
  obtain ⟨hlen, hall⟩ := good_parts hg
  have HP := Lib.hid (fun w' (hb : Below w.heap.size w w') => validPoly_yes (m : Int) v l w' h (hv.below hb (Nat.le_refl _)) hg)
  have HF := Lib.hid (fun v w (hv : Se w v (m : Int) (fun i => l.getD i 0) l.length) => by
    have := isAdditiveE m l.length v (fun i => l.getD i 0) w h hv (all_el h hall) (by omega)
    rw [ha] at this
    exact this)
  clear h hv hg hall ha
  generalize (fun i => l.getD i 0) = f at *
  generalize l.length = n at *
  go_enter Try.func27, Try.ntmps27
  go_wp2_with fail
  refine (HP.out _ (by (repeat' (first | (with_reducible assumption) | (with_reducible exact Below.refl _ _) | (with_reducible refine below_drewN ?_ _) | (with_reducible refine Below.drew ?_) | (with_reducible refine Below.alloc ?_ ?_ _) | (with_reducible refine Below.setCell ?_ ?_ _) | (with_reducible refine Below.trans ?_ (Below.mono (by assumption) ?_)) | (with_reducible exact Nat.le_refl _) | (with_reducible assumption) | omega | (simp; omega) | (simp; done))))).mono ?_
  rintro e w1 ⟨g, rfl, hg, hk1, he1, hb1⟩
  have hgl := hk1.lt
  have HE1 := Lib.hid he1
  simp at hg
  have HZ1 : Hid (w1.heap[w.heap.size]? = some pzblk) := Lib.hid ((hb1.block _ (by simp)).trans (heap_alloc_new w _))
  have l1 : w.heap.size < w1.heap.size := by have := hb1.size; simp at this; omega
  clear hk1 he1
  obtain ⟨hc1, hf1⟩ := bcell hb1; have hz1 := hb1.size; (try simp at hz1); have HB1 := Lib.hid hb1; clear hb1
  go_wp2_with fail
  refine (HF.out (.slice (some ⟨g, 0, none⟩) n n) _ ⟨g, n, rfl, by simp; omega, HE1.out.below (B := w1.heap.size) (by (repeat' (first | (with_reducible assumption) | (with_reducible exact Below.refl _ _) | (with_reducible refine below_drewN ?_ _) | (with_reducible refine Below.drew ?_) | (with_reducible refine Below.alloc ?_ ?_ _) | (with_reducible refine Below.setCell ?_ ?_ _) | (with_reducible refine Below.trans ?_ (Below.mono (by assumption) ?_)) | (with_reducible exact Nat.le_refl _) | (with_reducible assumption) | omega | (simp; omega) | (simp; done)))) hgl⟩).mono ?_
  rintro e w2 ⟨rfl, hb2⟩
  have hb12 : Below w1.heap.size w1 w2 := by (repeat' (first | (with_reducible assumption) | (with_reducible exact Below.refl _ _) | (with_reducible refine below_drewN ?_ _) | (with_reducible refine Below.drew ?_) | (with_reducible refine Below.alloc ?_ ?_ _) | (with_reducible refine Below.setCell ?_ ?_ _) | (with_reducible refine Below.trans ?_ (Below.mono (by assumption) ?_)) | (with_reducible exact Nat.le_refl _) | (with_reducible assumption) | omega | (simp; omega) | (simp; done)))
  have HBW : Hid (Below w.heap.size w w2) := Lib.hid (by have hb1 := HB1.out; (repeat' (first | (with_reducible assumption) | (with_reducible exact Below.refl _ _) | (with_reducible refine below_drewN ?_ _) | (with_reducible refine Below.drew ?_) | (with_reducible refine Below.alloc ?_ ?_ _) | (with_reducible refine Below.setCell ?_ ?_ _) | (with_reducible refine Below.trans ?_ (Below.mono (by assumption) ?_)) | (with_reducible exact Nat.le_refl _) | (with_reducible assumption) | omega | (simp; omega) | (simp; done))))
  have h3 := (hb12.block _ l1).trans HZ1.out
  obtain ⟨z0, z1, z2, z3, zf, zl⟩ := cells4 h3
  have hz2 := hb12.size
  clear hb2 hb12 h3
  go_wp2_with fail
  refine bodyPost_ret (v := .tuple #[polyZ, .bool false]) (by simp [results, Try.results27, go_sem, z0, z1, z2, z3]) rfl ⟨rfl, by have hb := HBW.out; (repeat' (first | (with_reducible assumption) | (with_reducible exact Below.refl _ _) | (with_reducible refine below_drewN ?_ _) | (with_reducible refine Below.drew ?_) | (with_reducible refine Below.alloc ?_ ?_ _) | (with_reducible refine Below.setCell ?_ ?_ _) | (with_reducible refine Below.trans ?_ (Below.mono (by assumption) ?_)) | (with_reducible exact Nat.le_refl _) | (with_reducible assumption) | omega | (simp; omega) | (simp; done)))⟩
set_option maxHeartbeats 2000000 in
theorem validAdditive_no1 (q : Int) (v : Value) (l : List Int) (w : World) (hv : Sl w v l) (hl : l.length ≤ 1048576) (hg : (isSz q && good q l) = false) :
    Calls Try.prog 27 #[.int .i64 q, v] w fun e w' => e = .returned (.tuple #[polyZ, .bool false]) ∧ Below w.heap.size w w' := by
  have HP := Lib.hid (fun w' (hb : Below w.heap.size w w') => validPoly_no q v l w' (hv.below hb (Nat.le_refl _)) hl hg)
  clear hv hg hl
  go_enter Try.func27, Try.ntmps27
  go_wp2_with fail
  refine (HP.out _ (by (repeat' (first | (with_reducible assumption) | (with_reducible exact Below.refl _ _) | (with_reducible refine below_drewN ?_ _) | (with_reducible refine Below.drew ?_) | (with_reducible refine Below.alloc ?_ ?_ _) | (with_reducible refine Below.setCell ?_ ?_ _) | (with_reducible refine Below.trans ?_ (Below.mono (by assumption) ?_)) | (with_reducible exact Nat.le_refl _) | (with_reducible assumption) | omega | (simp; omega) | (simp; done))))).mono ?_
  rintro e w1 ⟨rfl, hb1⟩
  have HZ1 := (hb1.block _ (by simp)).trans (heap_alloc_new w pzblk)
  obtain ⟨z0, z1, z2, z3, zf, zl⟩ := cells4 HZ1
  have l1 : w.heap.size < w1.heap.size := by have := hb1.size; simp at this; omega
  have HBW : Hid (Below w.heap.size w w1) := Lib.hid (by (repeat' (first | (with_reducible assumption) | (with_reducible exact Below.refl _ _) | (with_reducible refine below_drewN ?_ _) | (with_reducible refine Below.drew ?_) | (with_reducible refine Below.alloc ?_ ?_ _) | (with_reducible refine Below.setCell ?_ ?_ _) | (with_reducible refine Below.trans ?_ (Below.mono (by assumption) ?_)) | (with_reducible exact Nat.le_refl _) | (with_reducible assumption) | omega | (simp; omega) | (simp; done))))
  clear hb1 HZ1
  go_wp2_with fail
  refine bodyPost_ret (v := .tuple #[polyZ, .bool false]) (by simp [results, Try.results27, go_sem, z0, z1, z2, z3, zl]) rfl ⟨rfl, by have hb := HBW.out; (repeat' (first | (with_reducible assumption) | (with_reducible exact Below.refl _ _) | (with_reducible refine below_drewN ?_ _) | (with_reducible refine Below.drew ?_) | (with_reducible refine Below.alloc ?_ ?_ _) | (with_reducible refine Below.setCell ?_ ?_ _) | (with_reducible refine Below.trans ?_ (Below.mono (by assumption) ?_)) | (with_reducible exact Nat.le_refl _) | (with_reducible assumption) | omega | (simp; omega) | (simp; done)))⟩
theorem validAdditive_no (q : Int) (v : Value) (l : List Int) (w : World) (hv : Sl w v l) (hl : l.length ≤ 1048576) (hg : addL q l = false) :
    Calls Try.prog 27 #[.int .i64 q, v] w fun e w' => e = .returned (.tuple #[polyZ, .bool false]) ∧ Below w.heap.size w w' := by
  unfold addL at hg
  cases h : isSz q && good q l with
  | false => exact validAdditive_no1 q v l w hv hl h
  | true =>
    rw [h, Bool.true_and] at hg
    simp only [Bool.and_eq_true] at h
    have hq := isSz_le q h.1
    obtain ⟨m, rfl⟩ := Int.eq_ofNat_of_zero_le (show 0 ≤ q by omega)
    exact validAdditive_no2 m v l w h.1 hv h.2 hg
end Go.Proofs.Ytgndlpdcebmgmac
