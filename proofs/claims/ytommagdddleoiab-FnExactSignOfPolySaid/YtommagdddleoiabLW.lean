/- The cycles of a table, of the model: spec.peCycles. -/
import Derived.Test.YtommagdddleoiabLV
import Derived.Test.YtommagdddleoiabLI
namespace Go.Proofs.Ytommagdddleoiab
open Go.RowKit
def ints (l : List Nat) : List Int := l.map fun x : Nat => (x : Int)
theorem ints_len (l : List Nat) : (ints l).length = l.length := by simp [ints]
theorem ints_app (l : List Nat) (x : Nat) : ints (l ++ [x]) = ints l ++ [(x : Int)] := by simp [ints]
def FL (L : List (List Nat)) : Nat → List Int := fun i => ints (L.getD i [])
theorem FL_app (L : List (List Nat)) (l : List Nat) : ∀ i, i < L.length + 1 → set1 (FL L) L.length (ints l) i = FL (L ++ [l]) i := by
  intro i hi
  by_cases e : i = L.length
  · subst e
    rw [set1_at]
    simp [FL]
  · rw [set1_ne _ _ _ _ e]
    unfold FL
    congr 1
    simp [List.getD, List.getElem?_append_left (show i < L.length by omega)]
theorem tot_app (L : List (List Nat)) (l : List Nat) : tot (L ++ [l]) = tot L + l.length := by simp [tot]
theorem ofs_FLk (L : List (List Nat)) : ∀ k, k ≤ L.length → ofs (FL L) k = tot (L.take k)
  | 0, _ => rfl
  | k + 1, hk => by
    have h1 : L.take (k + 1) = L.take k ++ [L.getD k []] := by
      rw [List.take_succ_eq_append_getElem (by omega)]
      simp [List.getD, show k < L.length by omega]
    rw [ofs, ofs_FLk L k (by omega), h1, tot_app]
    simp [FL, ints_len]
theorem ofs_FL (L : List (List Nat)) : ofs (FL L) L.length = tot L := by
  rw [ofs_FLk L _ (Nat.le_refl _), List.take_length]
/-- All elements of the first m. -/
def allS (m : Nat) : Nat → Bool := fun y => decide (y < m)
/-- A table as one of numbers. -/
def nt (t : Nat → Int) : Nat → Nat := fun x => (t x).toNat
/-- The cycles of a table. -/
def CY (t : Nat → Int) (m : Nat) : List (List Nat) := cyc (nt t) m m (allS m)
/-- The number s tells, bit by bit, who is not there. -/
def Bits (m s : Nat) (S : Nat → Bool) : Prop := s < 2 ^ m ∧ ∀ y, y < m → S y = !s.testBit y
theorem bits_zero (m : Nat) : Bits m 0 (allS m) := ⟨Nat.two_pow_pos _, fun y hy => by simp [allS, hy]⟩
theorem bits_off {m s y : Nat} {S : Nat → Bool} (h : Bits m s S) (hy : y < m) : Bits m (s ||| 2 ^ y) (off S y) := by
  refine ⟨Nat.or_lt_two_pow h.1 (Nat.pow_lt_pow_right (by omega) hy), fun z hz => ?_⟩
  rw [Nat.testBit_or, Nat.testBit_two_pow]
  unfold off
  rw [h.2 z hz, Bool.not_or]
  congr 2
  by_cases e : y = z
  · subst e; simp
  · have e' : ¬ z = y := fun h => e h.symm
    simp [e, e']
theorem bits_lt {m s : Nat} {S : Nat → Bool} (h : Bits m s S) (hm : m ≤ 16) : s < 65536 :=
  Nat.lt_of_lt_of_le h.1 (Nat.pow_le_pow_right (by omega) (show m ≤ 16 from hm))
theorem bit_int (s y : Nat) : (((s : Int) / 2 ^ y).tmod 2) = ((s / 2 ^ y % 2 : Nat) : Int) := by
  have e : ((s : Int) / 2 ^ y) = ((s / 2 ^ y : Nat) : Int) := by push_cast; rfl
  rw [e, Int.tmod_eq_emod_of_nonneg (Int.natCast_nonneg _)]
  rfl
theorem bits_yes {m s y : Nat} {S : Nat → Bool} (h : Bits m s S) (hy : y < m) (hS : S y = true) : ((((s : Int) / 2 ^ y).tmod 2) == 1) = false ∧ ((((s : Int) / 2 ^ y).tmod 2) == 0) = true := by
  have h1 := h.2 y hy
  rw [hS, Nat.testBit_eq_decide_div_mod_eq] at h1
  have h2 : ¬ (s / 2 ^ y % 2 = 1) := by simpa using h1
  rw [bit_int]
  have h3 : s / 2 ^ y % 2 = 0 := by omega
  rw [h3]
  exact ⟨rfl, rfl⟩
theorem bits_no {m s y : Nat} {S : Nat → Bool} (h : Bits m s S) (hy : y < m) (hS : S y = false) : ((((s : Int) / 2 ^ y).tmod 2) == 1) = true ∧ ((((s : Int) / 2 ^ y).tmod 2) == 0) = false := by
  have h1 := h.2 y hy
  rw [hS, Nat.testBit_eq_decide_div_mod_eq] at h1
  have h2 : s / 2 ^ y % 2 = 1 := by simpa using h1
  rw [bit_int, h2]
  exact ⟨rfl, rfl⟩
theorem or_i64 (a b : Nat) (ha : a < 65536) (hb : b < 65536) : bits .or .i64 (a : Int) (b : Int) = ((a ||| b : Nat) : Int) := by
  have hx : a ||| b < 2 ^ 16 := Nat.or_lt_two_pow (by omega) (by omega)
  have h1 : (BitVec.ofInt 64 (a : Int)).toNat = a := by
    rw [BitVec.ofInt_natCast, BitVec.toNat_ofNat]; exact Nat.mod_eq_of_lt (by omega)
  have h2 : (BitVec.ofInt 64 (b : Int)).toNat = b := by
    rw [BitVec.ofInt_natCast, BitVec.toNat_ofNat]; exact Nat.mod_eq_of_lt (by omega)
  show IntKind.i64.wrap ((BitVec.ofInt 64 (a : Int) ||| BitVec.ofInt 64 (b : Int)).toNat : Int) = _
  rw [BitVec.toNat_or, h1, h2, IntKind.wrap_i64]
  omega
theorem pow_w (y : Nat) (h : y < 16) : wrap64 (2 ^ y) = ((2 ^ y : Nat) : Int) := by
  have hk : ∀ y ∈ List.range 16, wrap64 (2 ^ y) = ((2 ^ y : Nat) : Int) := by decide +kernel
  exact hk y (List.mem_range.2 h)
theorem or_bit (s y : Nat) (hs : s < 65536) (h : y < 16) : bits .or .i64 (s : Int) (wrap64 (2 ^ y)) = ((s ||| 2 ^ y : Nat) : Int) := by
  have h1 : 2 ^ y < 65536 := Nat.pow_lt_pow_right (a := 2) (by omega) h
  rw [pow_w y h, or_i64 _ _ hs h1]
/-- How long a slice is. -/
def lenOf : Value → Nat
  | .slice _ n _ => n
  | _ => 0
theorem Row.len {w : World} {B : Nat} {v : Value} {l : List Int} (h : Row w B v l) : lenOf v = l.length := by
  obtain ⟨a, c, rfl⟩ := h.sl.form
  rfl
set_option maxHeartbeats 8000000 in
set_option maxRecDepth 100000 in
/-- spec.peCycles. -/
theorem peCycles_any (m : Nat) (v : Value) (t : Nat → Int) (w : World) (hm : m ≤ 16) (h0 : 0 < m) (hv : Sl w v (fl t m)) (ht : ∀ i, i < m → 0 ≤ t i ∧ t i < (m : Int)) :
    Calls Try.prog 42 #[v] w fun e w' => ∃ v' X, e = .returned v' ∧ RS w' w.heap.size v' (CY t m).length (FL (CY t m)) X ∧ Below w.heap.size w w' := by
  obtain ⟨i0, hi, iz0, iz1, iz2⟩ := info_parts Try.infoI
  obtain ⟨j0, hj, jz0, jz1, jz2⟩ := info_parts Try.infoR
  obtain ⟨a, cap, rfl, hp⟩ := hv.parts
  obtain ⟨b, fo, rfl, hb0, hc⟩ := hp h0
  have hnt : ∀ x, x < m → nt t x < m := fun x hx => by have := ht x hx; unfold nt; omega
  have hntv : ∀ x, x < m → t x = ((nt t x : Nat) : Int) := fun x hx => by have := ht x hx; unfold nt; omega
  have HC : Hid (∀ i, i < m → w.cell? ⟨b, fo + i, none⟩ = some (.int .i64 ((nt t i : Nat) : Int))) := Lib.hid fun i hi => by rw [hc i hi, hntv i hi]
  have HNT := Lib.hid hnt
  have HB0 := Lib.hid (bits_zero m)
  have HL0 : Hid (∃ c, cnS m (allS m) ≤ c ∧ ([] : List (List Nat)) ++ cyc (nt t) m c (allS m) = CY t m) := Lib.hid ⟨m, cnS_le _ _, rfl⟩
  have HNO : Hid (∀ c S, (∀ x, x < m → S x = false) → cyc (nt t) m c S = []) := Lib.hid fun c S h => cyc_none c h
  have HSO : Hid (∀ c S x, x < m → S x = true → (∀ y, y < x → S y = false) → cnS m S ≤ c → ∃ c', cnS m (tk (nt t) m S x).2 ≤ c' ∧ cyc (nt t) m c S = (tk (nt t) m S x).1 :: cyc (nt t) m c' (tk (nt t) m S x).2) := Lib.hid fun c S x hx hS hl hc => by
    obtain ⟨c', _, h1, h2⟩ := cyc_some (t := nt t) hnt hx hS hl hc
    exact ⟨c', h1, h2⟩
  have HTN : Hid (∀ k S x, S x = false → tk (nt t) k S x = ([], S)) := Lib.hid fun k S x h => tk_no k h
  have HTY : Hid (∀ k S x, x < m → S x = true → cnS m S ≤ k → ∃ k', cnS m (off S x) ≤ k' ∧ tk (nt t) k S x = (x :: (tk (nt t) k' (off S x) (nt t x)).1, (tk (nt t) k' (off S x) (nt t x)).2)) := Lib.hid fun k S x hx hS hc => by
    obtain ⟨k', _, h1, h2⟩ := tk_yes (t := nt t) hx hS hc
    exact ⟨k', h1, h2⟩
  have HMONO : Hid (∀ S x y, x < m → S y = false → (tk (nt t) m S x).2 y = false) := Lib.hid fun S x y hx h => tk_mono m S x y h
  have HCL : Hid (∀ S, cnS m S ≤ m) := Lib.hid fun S => cnS_le _ _
  have HOFF : Hid (∀ S x, x < m → S x = true → cnS m S = cnS m (off S x) + 1) := Lib.hid fun S x hx hS => cnS_off hx hS
  have HSELF : Hid (∀ S x, x < m → S x = true → (tk (nt t) m S x).2 x = false) := Lib.hid fun S x hx hS => by
    obtain ⟨k', _, _, h2⟩ := tk_yes (t := nt t) hx hS (cnS_le m S)
    rw [h2]
    exact tk_mono _ _ _ _ (off_at S x)
  have HRA : Hid (∀ w B v (l : List Nat), Row w B v (ints l) → w.ownsRow B 3 1 v l.length ((ints l).map (Value.int .i64))) := Lib.hid fun w B v l h => by
    have h' := h
    unfold Row at h'
    rw [ints_len] at h'
    exact h'
  clear hp hc hv ht hnt hntv
  generalize hL : CY t m = L at *
  have HLL : Hid (L.length ≤ m) := Lib.hid (by rw [← hL]; exact cyc_len (t := nt t) m m (allS m))
  clear hL
  generalize hT : nt t = T at *
  clear hT
  go_enter Try.func42, Try.ntmps42
  go_wp2_with fail
  go_loopw [3, 4, 10] (fun vo vs vi wr => ∃ (k s : Nat) (S : Nat → Bool) (pre : List (List Nat)) (X : Nat → Value), k ≤ m ∧ vi = .int .i64 k ∧ vs = .int .i64 s ∧ Bits m s S ∧ (∀ y, y < k → S y = false) ∧ (∃ c, cnS m S ≤ c ∧ pre ++ cyc T m c S = L) ∧ RS wr w.heap.size vo pre.length (FL pre) X ∧ Below w.heap.size w wr) (fun _ _ vi _ => m - (intOf vi).toNat)
  case atStart => exact ⟨0, 0, allS m, [], fun _ => .slice none 0 0, Nat.zero_le _, rfl, rfl, HB0.out, fun y hy => absurd hy (Nat.not_lt_zero _), HL0.out, RS.nil _ _ _ _, Below.refl _ _⟩
  case round =>
    obtain ⟨k, s, S, pre, X, hk, rfl, rfl, hbits, hlow, ⟨c, hcn, hpre⟩, hr, hb⟩ := hrel
    obtain ⟨wo, rfl⟩ : ∃ x : World, x = wr := ⟨_, rfl⟩
    have hs := bits_lt hbits hm
    have HBT := Lib.hid hbits
    have HLOW := Lib.hid hlow
    have HR := Lib.hid hr
    have HB := Lib.hid hb
    have hzr := hb.size
    have hbw : b < wo.heap.size := by omega
    by_cases hlt : k < m
    · cases hS : S k with
      | false =>
        obtain ⟨t1, _⟩ := bits_no hbits hlt hS
        have HS := Lib.hid hS
        have HPRE := Lib.hid hpre
        clear hbits hlow hr hb hS hpre
        go_wp2_with fail
        go_roundw
        case rel =>
          refine ⟨k + 1, s, S, pre, X, by omega, by go_num, rfl, HBT.out, ?_, ⟨c, hcn, HPRE.out⟩, HR.out, HB.out⟩
          intro y hy
          by_cases e : y = k
          · subst e; exact HS.out
          · exact HLOW.out y (by omega)
        case measure => simp [intOf]; omega
      | true =>
        obtain ⟨t1, t0⟩ := bits_yes hbits hlt hS
        obtain ⟨c', hc', hcy⟩ := HSO.out c S k hlt hS hlow hcn
        have HS := Lib.hid hS
        rw [hcy] at hpre
        have HPRE := Lib.hid hpre
        have hlen : pre.length < m := by
          have h1 := congrArg List.length hpre
          rw [List.length_append, List.length_cons] at h1
          have := HLL.out
          omega
        have HCN := Lib.hid hcn
        clear hbits hlow hr hb hpre hcy hS hcn
        go_wp2_with fail
        go_loopw [4, 6, 7] (fun vs vc vy ws => ∃ (s' y kk : Nat) (S' : Nat → Bool) (p2 : List Nat), y < m ∧ vs = .int .i64 s' ∧ vy = .int .i64 y ∧ Bits m s' S' ∧ cnS m S' ≤ kk ∧ p2 ++ (tk T kk S' y).1 = (tk T m S k).1 ∧ (tk T kk S' y).2 = (tk T m S k).2 ∧ p2.length + cnS m S' ≤ m ∧ Row ws wo.heap.size vc (ints p2) ∧ Below wo.heap.size wo ws) (fun _ vc _ _ => m - lenOf vc)
        case atStart => exact ⟨s, k, m, S, [], hlt, rfl, rfl, HBT.out, HCL.out S, rfl, rfl, by have := HCL.out S; simpa using this, Row.nil _ _, Below.refl _ _⟩
        case round =>
          obtain ⟨s', y, kk, S', p2, hy, rfl, rfl, hb2, hkk, hp2, hend, hcnt, hr2, hbs⟩ := hrel
          have hs' := bits_lt hb2 hm
          have hcell := (hbs.cell (p := ⟨b, fo + y, none⟩) hbw).trans ((HB.out.cell (p := ⟨b, fo + y, none⟩) hb0).trans (HC.out y hy))
          have hzs := hbs.size
          obtain ⟨a2, cp2, hvc⟩ := hr2.sl.form
          rw [ints_len] at hvc
          subst hvc
          cases hS' : S' y with
          | false =>
            obtain ⟨u1, u0⟩ := bits_no hb2 hy hS'
            have hno := HTN.out kk S' y hS'
            rw [hno] at hp2 hend
            simp only [List.append_nil] at hp2 hend
            have HBT2 := Lib.hid hb2
            have HP2 := Lib.hid hp2
            have HEND := Lib.hid hend
            have HRO := Lib.hid (HR.out.below (hbs))
            have HR2 := Lib.hid hr2
            have HBS := Lib.hid hbs
            clear hb2 hp2 hend hr2 hbs hno hS'
            go_wp2_with (at_builtin; refine wpList_append_own _ rfl _ _ 31 rfl w.heap.size 22 j0 (.slice none 0 0) 1 24 Try.underlying31 hj jz0 jz1 jz2 rfl (by decide) _ _ _ rfl (World.ownsRow.alloc HRO.out.outer _) ⟨wr.heap.size, 0, none⟩ 1 1 [.slice a2 p2.length cp2] rfl rfl ?c1 ?c2 ?c3 ?c4 ?c5 ?_)
            case c1 => exact cell_one_new _ _ _
            case c2 => first | rfl | (intro u hu; simp at hu; subst hu; rfl)
            case c3 => unfold maxLen; omega
            case c4 => omega
            case c5 => first | omega | (simp; omega)
            intro v' w6 hown hgrow _
            have hrs := (HRO.out.alloc _).appended hgrow hown ((HR2.out.alloc _).mono (by omega)) (fun i hi g hg e => by
              have h1 := ((HR.out.inner i hi).lt g hg).2
              have h2 := (HR2.out.lt g e).1
              omega)
            have HRS := Lib.hid (hrs.congr (FL_app pre p2))
            have hbA : Below w.heap.size w (wr.alloc (.cells #[.slice a2 p2.length cp2] 22)) := by have hb1 := HB.out; have hb2 := HBS.out; (repeat' (first | (with_reducible assumption) | (with_reducible exact Below.refl _ _) | (with_reducible refine below_drewN ?_ _) | (with_reducible refine Below.drew ?_) | (with_reducible refine Below.alloc ?_ ?_ _) | (with_reducible refine Below.setCell ?_ ?_ _) | (with_reducible refine Below.trans ?_ (Below.mono (by assumption) ?_)) | (with_reducible exact Nat.le_refl _) | (with_reducible assumption) | omega | (simp; omega) | (simp; done)))
            have HB6 := Lib.hid (hbA.grown hgrow (by simp; omega) (fun g hg => (HRO.out.lt g hg).1))
            clear hown hgrow hbA hrs
            go_wp2
            go_roundw
            case rel =>
              refine ⟨k + 1, s', S', pre ++ [p2], _, by omega, by go_num, rfl, HBT2.out, ?_, ⟨c', by rw [HEND.out]; exact hc', ?_⟩, by rw [List.length_append]; exact HRS.out, HB6.out⟩
              · intro z hz
                rw [HEND.out]
                by_cases e : z = k
                · subst e; exact HSELF.out S z hlt HS.out
                · exact HMONO.out S k z hlt (HLOW.out z (by omega))
              · rw [HEND.out, HP2.out, List.append_assoc]
                exact HPRE.out
            case measure => simp [intOf]; omega
          | true =>
            obtain ⟨u1, u0⟩ := bits_yes hb2 hy hS'
            obtain ⟨k2, hk2, hyes⟩ := HTY.out kk S' y hy hS' hkk
            have hoff := HOFF.out S' y hy hS'
            rw [hyes] at hp2 hend
            have hOR := or_bit s' y hs' (by omega)
            have HBT2 := Lib.hid (bits_off hb2 hy)
            have HP2 := Lib.hid hp2
            have HEND := Lib.hid hend
            have HR2 := Lib.hid hr2
            have HBS := Lib.hid hbs
            have hTy := HNT.out y hy
            clear hb2 hp2 hend hr2 hbs hyes hS'
            go_wp2_with (at_builtin; refine wpList_append_own _ rfl _ _ 22 rfl wo.heap.size 3 i0 (.int .i64 0) 1 8 Try.underlying22 hi iz0 iz1 iz2 rfl (by decide) _ _ _ rfl (HRA.out _ _ _ _ (HR2.out.alloc _)) ⟨wr.heap.size, 0, none⟩ 1 1 [.int .i64 y] rfl rfl ?c1 ?c2 ?c3 ?c4 ?c5 ?_)
            case c2 => first | rfl | (intro u hu; simp at hu; subst hu; rfl)
            case c3 => unfold maxLen; omega
            case c4 => omega
            case c5 => first | omega | (simp; omega)
            intro v' w6 hown hgrow _
            have hr6 : Row w6 wo.heap.size v' (ints (p2 ++ [y])) := by
              rw [ints_app]
              exact Row.appended (by rw [ints_len]; exact hown)
            have hln : lenOf v' = p2.length + 1 := by rw [hr6.len, ints_len, List.length_append]; rfl
            have hbA : Below wo.heap.size wo (wr.alloc (.cells #[.int .i64 y] 3)) := HBS.out.alloc (by omega) _
            have HB6 := Lib.hid (hbA.grown hgrow (by simp; omega) (fun g hg => (HR2.out.lt g hg).1))
            have HR6 := Lib.hid hr6
            have hcell6 := (HB6.out.cell (p := ⟨b, fo + y, none⟩) hbw).trans ((HB.out.cell (p := ⟨b, fo + y, none⟩) hb0).trans (HC.out y hy))
            clear hown hgrow hbA hr6 hcell
            go_wp2
            go_roundw
            case rel => exact ⟨s' ||| 2 ^ y, T y, k2, off S' y, p2 ++ [y], hTy, rfl, rfl, HBT2.out, hk2, by rw [List.append_assoc]; exact HP2.out, HEND.out, by rw [List.length_append]; simp; omega, HR6.out, HB6.out⟩
            case measure => rw [hln]; simp [lenOf]; omega
    · obtain rfl : m = k := by omega
      have hno := HNO.out c S (fun x hx => hlow x hx)
      rw [hno, List.append_nil] at hpre
      have HB := Lib.hid hb
      have HR := Lib.hid hr
      subst hpre
      clear hb hr hbits hlow hno
      go_wp2
      go_ret
      exact ⟨_, X, rfl, HR.out, HB.out⟩
end Go.Proofs.Ytommagdddleoiab
