/- CountByValues of the model, by contracts. -/
import Derived.Test.YtnmdcmbcackchabQB
import Derived.Test.YtnmdcmbcackchabOB
import Derived.Test.YtnmdcmbcackchabKL
import Derived.Test.YtnmdcmbcackchabMF
namespace Go.Proofs.Ytnmdcmbcackchab
open Go.RowKit
/-- The polynomial with a number. -/
def FN (m d n : Nat) : List Int := fl (topF d ((1 + n / m ^ d : Nat) : Int) (dgt m n)) (d + 1)
theorem div_small {m d n : Nat} (hm : 1 ≤ m) (hn : n < (m - 1) * m ^ d) : 1 + n / m ^ d < m := by
  have h1 : n / m ^ d < m - 1 := by
    rw [Nat.div_lt_iff_lt_mul (Nat.pow_pos (by omega))]
    exact hn
  omega
theorem FN_good {m d n : Nat} (h : isSz (m : Int) = true) (hdm : d < m) (hn : n < (m - 1) * m ^ d) : good (m : Int) (FN m d n) = true := by
  have hq := isSz_le (m : Int) h
  have hs := div_small (by omega) hn
  have hel := topF_el (d := d) h (El.nat hs) (fun i => dgt_el (m := m) (n := n) (by omega) i)
  have h1 : (FN m d n).all (inF (m : Int)) = true := by
    refine List.all_eq_true.2 fun x hx => ?_
    obtain ⟨i, hi, rfl⟩ := List.mem_map.1 hx
    have := hel i
    simp only [inF, Bool.and_eq_true, decide_eq_true_iff]
    exact this
  have h2 : (FN m d n).length = d + 1 := fl_len _ _
  have h3 : (FN m d n).getD d 0 = ((1 + n / m ^ d : Nat) : Int) := by
    unfold FN
    rw [fl_get _ _ _ (by omega)]
    simp [topF]
  unfold good
  rw [h1, h2, Nat.add_sub_cancel, h3]
  generalize n / m ^ d = r at *
  rw [decide_eq_true (show ((d + 1 : Nat) : Int) ≤ (m : Int) by omega), decide_eq_true (show (0 : Int) < ((1 + r : Nat) : Int) by omega), Bool.or_true]
  rfl
theorem FN_tab {m d n : Nat} (h : isSz (m : Int) = true) (hn : n < (m - 1) * m ^ d) (x : Nat) (hx : x < m) : tabF (m : Int) (fun i => (FN m d n).getD i 0) (FN m d n).length x = vt m d ((1 + n / m ^ d : Nat) : Int) (dgt m n) x := by
  have hq := isSz_le (m : Int) h
  have hs := div_small (by omega) hn
  have hdel := fun i => dgt_el (m := m) (n := n) (by omega) i
  have hel := topF_el (d := d) h (El.nat hs) hdel
  rw [← tabF_vt h (El.nat hs) hdel x hx]
  have h2 : (FN m d n).length = d + 1 := fl_len _ _
  rw [h2]
  unfold tabF
  have hel2 : ∀ i, El (m : Int) ((fun i => (FN m d n).getD i 0) i) := fun i => by
    by_cases hi : i < d + 1
    · show El (m : Int) ((FN m d n).getD i 0)
      unfold FN
      rw [fl_get _ _ _ hi]
      exact hel i
    · show El (m : Int) ((FN m d n).getD i 0)
      rw [show (FN m d n).getD i 0 = 0 by simp [List.getD, List.getElem?_eq_none (show (FN m d n).length ≤ i by omega)]]
      exact El.zero h
  rw [hor_val h (El.nat hx) hel2 (d + 1), hor_val h (El.nat hx) hel (d + 1)]
  unfold val
  refine lsum_congr fun i hi => ?_
  show mulF (m : Int) ((FN m d n).getD i 0) _ = _
  unfold FN
  rw [fl_get _ _ _ hi]
theorem FN_nv {m d n : Nat} (h : isSz (m : Int) = true) (hn : n < (m - 1) * m ^ d) : (wh (mt (tabF (m : Int) (fun i => (FN m d n).getD i 0) (FN m d n).length) m) m).length = nv m (vt m d ((1 + n / m ^ d : Nat) : Int) (dgt m n)) := by
  rw [nv_wh]
  exact nv_congr fun i hi => FN_tab h hn i hi
theorem FN_app (m d n : Nat) : FN m d n = fl (dgt m n) d ++ [((1 + n / m ^ d : Nat) : Int)] := by
  unfold FN
  rw [fl_succ]
  congr 1
  · exact fl_congr fun i hi => by unfold topF; rw [if_pos hi]
  · simp [topF]
theorem part0_ze (m : Nat) : fl (part0 (fun _ => 0) 0) m = fl (fun _ => 0) m := fl_congr fun i _ => by simp [part0]
theorem few0 {m : Nat} (hm : m ≤ 16) : few m 0 = true := decide_eq_true (by simp; omega)
set_option maxRecDepth 100000 in
set_option maxHeartbeats 8000000 in
theorem spec_CountByValues_few (m d : Nat) (w : World) (h : isSz (m : Int) = true) (hdm : d < m) (hf : few m d = false) :
    Calls Try.prog 17 #[.int .i64 m, .int .i64 d] w fun e w' => e = .returned (.tuple #[.slice none 0 0, .bool false]) ∧ Below w.heap.size w w' := by
  have hq := isSz_le (m : Int) h
  have HS := Lib.hid (fun w => fdSize_any (m : Int) w)
  rw [h] at HS
  have HI := Lib.hid (fun w => l1In_any (d : Int) 0 ((m : Int) - 1) w)
  rw [show (decide ((0 : Int) ≤ (d : Int)) && decide ((d : Int) ≤ (m : Int) - 1)) = true by simp; omega] at HI
  have hw1 : IntKind.i64.wrap ((m : Int) - 1) = (m : Int) - 1 := IntWalk.i64_in _ (by omega)
  have HFEW : Hid (∀ k, few m k = decide ((m - 1) * m ^ k ≤ 20000)) := Lib.hid fun _ => rfl
  have HPS : Hid (∀ k, (m - 1) * m ^ k * m = (m - 1) * m ^ (k + 1)) := Lib.hid fun k => by rw [Nat.pow_succ, Nat.mul_assoc]
  have HP0 : Hid (((m - 1) * m ^ 0 : Nat) = ((m : Int) - 1)) := Lib.hid (by simp; omega)
  have HF0 := Lib.hid (few0 (m := m) (by omega))
  have HF := Lib.hid hf
  clear h hf
  go_enter Try.func17, Try.ntmps17
  go_wp2_with fail
  refine (HS.out _).mono ?_
  rintro e w1 ⟨rfl, hb1⟩
  have HB1 := Lib.hid hb1
  clear hb1
  go_wp2_with fail
  refine (HI.out _).mono ?_
  rintro e _ ⟨rfl, rfl⟩
  go_wp2_with fail
  go_loopw [6, 7] (fun va vk wr => ∃ k : Nat, k ≤ d ∧ vk = .int .i64 k ∧ va = .int .i64 ((m - 1) * m ^ k : Nat) ∧ few m k = true ∧ wr = w1) (fun _ vk _ => d - (intOf vk).toNat)
  case atStart => exact ⟨0, Nat.zero_le _, rfl, by rw [HP0.out], HF0.out, rfl⟩
  case round =>
    obtain ⟨k, hk, rfl, rfl, hfk, rfl⟩ := hrel
    by_cases hlt : k < d
    · have hs := HPS.out k
      have hfa := of_decide_eq_true ((HFEW.out k).symm.trans hfk)
      have hfb := HFEW.out (k + 1)
      obtain ⟨a', ha'⟩ : ∃ x, (m - 1) * m ^ (k + 1) = x := ⟨_, rfl⟩
      rw [ha'] at hs hfb
      have HA' := Lib.hid ha'; clear ha'
      generalize (m - 1) * m ^ k = a at *
      have hmul : (a : Int) * (m : Int) = (a' : Int) := by rw [← hs]; rfl
      have hab : a' ≤ 20000 * 16 := by rw [← hs]; exact Nat.mul_le_mul hfa (by omega)
      have hwa : IntKind.i64.wrap (a' : Int) = (a' : Int) := IntWalk.i64_in _ (by omega)
      have HFB := Lib.hid hfb
      clear hs hfk hfb
      by_cases hbig : 20000 < a'
      · have hbI : (20000 : Int) < (a' : Int) := by omega
        go_wp2
        go_ret2
        exact ⟨rfl, HB1.out⟩
      · have hbI : ¬ (20000 : Int) < (a' : Int) := by omega
        have HFT : Hid (few m (k + 1) = true) := Lib.hid (by rw [HFB.out]; exact decide_eq_true (by omega))
        go_wp2
        go_roundw
        case rel => exact ⟨k + 1, by omega, by go_num, by rw [HA'.out], HFT.out, by first | rfl | trivial⟩
        case measure => simp [intOf]; omega
    · obtain rfl : d = k := by omega
      exact absurd (hfk.symm.trans HF.out) (by decide)
set_option maxRecDepth 100000 in
set_option maxHeartbeats 8000000 in
theorem spec_CountByValues_yes (m d : Nat) (w : World) (h : isSz (m : Int) = true) (hdm : d < m) (hf : few m d = true) :
    Calls Try.prog 17 #[.int .i64 m, .int .i64 d] w fun e w' => ∃ v, e = .returned (.tuple #[v, .bool true]) ∧ Row w' w.heap.size v (fl (oc (TSp m d) ((m - 1) * m ^ d)) (m + 1)) ∧ Below w.heap.size w w' := by
  obtain ⟨i0, hi, iz0, iz1, iz2⟩ := info_parts Try.infoI
  have hq := isSz_le (m : Int) h
  have HS := Lib.hid (fun w => fdSize_any (m : Int) w)
  rw [h] at HS
  have HI := Lib.hid (fun w => l1In_any (d : Int) 0 ((m : Int) - 1) w)
  rw [show (decide ((0 : Int) ≤ (d : Int)) && decide ((d : Int) ≤ (m : Int) - 1)) = true by simp; omega] at HI
  have hw1 : IntKind.i64.wrap ((m : Int) - 1) = (m : Int) - 1 := IntWalk.i64_in _ (by omega)
  have hwm : IntKind.i64.wrap ((m : Int) + 1) = (m : Int) + 1 := IntWalk.i64_in _ (by omega)
  have HMO : Hid (∀ k, k ≤ d → (m - 1) * m ^ k ≤ 20000) := Lib.hid fun k hk => Nat.le_trans (Nat.mul_le_mul_left _ (Nat.pow_le_pow_right (by omega) hk)) (of_decide_eq_true hf)
  have HPS : Hid (∀ k, (m - 1) * m ^ k * m = (m - 1) * m ^ (k + 1)) := Lib.hid fun k => by rw [Nat.pow_succ, Nat.mul_assoc]
  have HP0 : Hid (((m - 1) * m ^ 0 : Nat) = ((m : Int) - 1)) := Lib.hid (by simp; omega)
  have HG := Lib.hid (fun n (hn : n < (m - 1) * m ^ d) => FN_good h hdm hn)
  have HV := Lib.hid (fun n v w' (hn : n < (m - 1) * m ^ d) (hs : Sl w' v (FN m d n)) => by have := plValues_any (m : Int) v (FN m d n) w' h hs (FN_good h hdm hn); rw [Int.toNat_natCast] at this; exact this)
  have HA := Lib.hid (fun n v w' (hn : n < (m - 1) * m ^ d) (hs : Sl w' v (fl (tabF (m : Int) (fun i => (FN m d n).getD i 0) (FN m d n).length) m)) => vaValues_any m m v _ w' (by omega) hs (fun i hi => tab_el (k := (FN m d n).length) h (all_el h (good_parts (FN_good h hdm hn)).2) i hi) (by omega))
  have HNV := Lib.hid (fun n (hn : n < (m - 1) * m ^ d) => FN_nv h hn)
  have HAPP := Lib.hid (FN_app m d)
  have HDV := Lib.hid (fun n (hn : n < (m - 1) * m ^ d) => div_small (m := m) (d := d) (n := n) (by omega) hn)
  have HTS : Hid (∀ n, TSp m d n = ((nv m (vt m d ((1 + n / m ^ d : Nat) : Int) (dgt m n)) : Nat) : Int)) := Lib.hid fun _ => rfl
  have HNL := Lib.hid (fun t => nv_le m t)
  have HSU := Lib.hid (oc_succ (TSp m d))
  have HBD := Lib.hid (oc_bd (TSp m d))
  have HDG : Hid (∀ n k, dgt m n k = ((n / m ^ k % m : Nat) : Int)) := Lib.hid fun _ _ => rfl
  have HDD : Hid (∀ n k, n / m ^ k / m = n / m ^ (k + 1)) := Lib.hid fun n k => by rw [Nat.div_div_eq_div_mul, Nat.pow_succ]
  have HD0 : Hid (∀ n, n / m ^ 0 = n) := Lib.hid fun n => by rw [Nat.pow_zero, Nat.div_one]
  have HFS := Lib.hid (fun n => fl_succ (dgt m n))
  have HFL := Lib.hid (fun n => fl_len (dgt m n))
  have HF0 : Hid (∀ n, fl (dgt m n) 0 = []) := Lib.hid fun _ => rfl
  have HO0 : Hid (oc (TSp m d) 0 = fun _ => 0) := Lib.hid rfl
  clear h hf
  go_enter Try.func17, Try.ntmps17
  go_wp2_with fail
  refine (HS.out _).mono ?_
  rintro e w1 ⟨rfl, hb1⟩
  have HB1 := Lib.hid hb1
  clear hb1
  go_wp2_with fail
  refine (HI.out _).mono ?_
  rintro e _ ⟨rfl, rfl⟩
  go_wp2_with fail
  go_loopw [6, 7] (fun va vk wr => ∃ k : Nat, k ≤ d ∧ vk = .int .i64 k ∧ va = .int .i64 ((m - 1) * m ^ k : Nat) ∧ wr = w1) (fun _ vk _ => d - (intOf vk).toNat)
  case atStart => exact ⟨0, Nat.zero_le _, rfl, by rw [HP0.out], rfl⟩
  case round =>
    obtain ⟨k, hk, rfl, rfl, rfl⟩ := hrel
    by_cases hlt : k < d
    · have hs := HPS.out k
      have hab := HMO.out (k + 1) hlt
      obtain ⟨a', ha'⟩ : ∃ x, (m - 1) * m ^ (k + 1) = x := ⟨_, rfl⟩
      rw [ha'] at hs hab
      have HA' := Lib.hid ha'; clear ha'
      generalize (m - 1) * m ^ k = a at *
      have hmul : (a : Int) * (m : Int) = (a' : Int) := by rw [← hs]; rfl
      have hwa : IntKind.i64.wrap (a' : Int) = (a' : Int) := IntWalk.i64_in _ (by omega)
      have hbI : ¬ (20000 : Int) < (a' : Int) := by omega
      clear hs
      go_wp2
      go_roundw
      case rel => exact ⟨k + 1, by omega, by go_num, by rw [HA'.out], by first | rfl | trivial⟩
      case measure => simp [intOf]; omega
    · obtain rfl : d = k := by omega
      have hab := HMO.out d (Nat.le_refl _)
      obtain ⟨A, hA⟩ : ∃ x, (m - 1) * m ^ d = x := ⟨_, rfl⟩
      rw [hA] at hab HG HV HA HNV HDV
      rw [hA]
      have HAA := Lib.hid hA
      clear hA HMO HPS HP0
      go_wp2_with (at_make; refine wpList_make_full _ rfl _ _ 22 rfl w.heap.size 3 i0 (.int .i64 0) 1 Try.underlying22 hi iz0 iz1 .i64 .i64 _ _ (m + 1) rfl rfl rfl rfl ?c3 ?c4 HB1.out.size ?_)
      case c3 => first | (rw [iz2]; omega) | omega
      case c4 => unfold maxLen; omega
      intro w2 hown hgrow
      have HR2 : Hid (Row w2 w.heap.size (.slice (some ⟨wr.heap.size, 0, none⟩) (m + 1) (m + 1)) (fl (oc (TSp m d) 0) (m + 1))) := Lib.hid (by
        have := Row.madeF (fun _ => 0) hown
        rw [part0_ze] at this
        rw [HO0.out]
        exact this)
      have HB2 : Hid (Below w.heap.size w w2) := Lib.hid (HB1.out.grown hgrow HB1.out.size (fun k hk => by cases hk))
      have hG2 := HR2.out.lt _ rfl
      clear hown hgrow
      obtain ⟨G, hG⟩ : ∃ G, wr.heap.size = G := ⟨_, rfl⟩
      rw [hG] at HR2 hG2 ⊢
      clear hG
      obtain ⟨hGlo, hGhi⟩ := hG2
      go_wp2_with fail
      go_loopw [9] (fun vn wr => ∃ n : Nat, n ≤ A ∧ vn = .int .i64 n ∧ Row wr w.heap.size (.slice (some ⟨G, 0, none⟩) (m + 1) (m + 1)) (fl (oc (TSp m d) n) (m + 1)) ∧ G < wr.heap.size ∧ Below w.heap.size w wr) (fun vn _ => A - (intOf vn).toNat)
      case atStart => exact ⟨0, Nat.zero_le _, rfl, HR2.out, hGhi, HB2.out⟩
      case round =>
        obtain ⟨n, hn, rfl, hrn, hGn, hbn⟩ := hrel
        have HRN := Lib.hid hrn
        have HBN := Lib.hid hbn
        have hzn := hbn.size
        clear hrn hbn
        by_cases hlt2 : n < A
        · obtain ⟨S, hS⟩ : ∃ S, wr.heap.size = S := ⟨_, rfl⟩
          have HSS : Hid (S = wr.heap.size) := Lib.hid hS.symm
          rw [hS] at hGn hzn
          clear hS
          have HV' := Lib.hid (fun v w' hs => HV.out n v w' hlt2 hs)
          have HA' := Lib.hid (fun v w' hs => HA.out n v w' hlt2 hs)
          have hnv := HNV.out n hlt2
          have hdv := HDV.out n hlt2
          have happ := HAPP.out n
          have hts := HTS.out n
          have hnl := HNL.out (vt m d ((1 + n / m ^ d : Nat) : Int) (dgt m n))
          generalize nv m (vt m d ((1 + n / m ^ d : Nat) : Int) (dgt m n)) = N at *
          have hsu := HSU.out n N hts
          have hbd := HBD.out n N
          have HNVV := Lib.hid hnv
          have HAPP' := Lib.hid happ
          have HSUU := Lib.hid hsu
          clear hnv happ hts hsu
          go_wp2_with fail
          go_loopw [10, 11, 12] (fun vf vr vk ws => ∃ k : Nat, k ≤ d ∧ vk = .int .i64 k ∧ vr = .int .i64 (n / m ^ k : Nat) ∧ Row ws S vf (fl (dgt m n) k) ∧ Row ws w.heap.size (.slice (some ⟨G, 0, none⟩) (m + 1) (m + 1)) (fl (oc (TSp m d) n) (m + 1)) ∧ S ≤ ws.heap.size ∧ Below w.heap.size w ws) (fun _ _ vk _ => d - (intOf vk).toNat)
          case atStart => exact ⟨0, Nat.zero_le _, rfl, by rw [HD0.out], by rw [HF0.out]; exact Row.nil _ _, HRN.out, by rw [HSS.out]; exact Nat.le_refl _, HBN.out⟩
          case round =>
            obtain ⟨k, hk, rfl, rfl, hrf, hro, hSw, hbk⟩ := hrel
            have HRF := Lib.hid hrf
            have HRO := Lib.hid hro
            have HBK := Lib.hid hbk
            have hln := HFL.out n k
            have hne := hrf.lt
            have hr0 : n / m ^ k ≤ n := Nat.div_le_self _ _
            by_cases hlt3 : k < d
            · have hdg := HDG.out n k
              have hdd := HDD.out n k
              have hfs := HFS.out n k
              rw [hdg] at hfs
              have HFSS := Lib.hid hfs
              generalize n / m ^ k = r at *
              have HRD := Lib.hid hdd
              have hrb : r ≤ 20000 := by omega
              have hdv0 : 0 ≤ (r : Int) / (m : Int) := Int.ediv_nonneg (by omega) (by omega)
              have hdv1 : (r : Int) / (m : Int) ≤ 20000 := Int.le_trans (Int.ediv_le_self _ (by omega)) (by omega)
              clear hrf hro hbk hdg hdd hfs
              go_wp2_with (at_builtin; refine wpList_append_own _ rfl _ _ 22 rfl S 3 i0 (.int .i64 0) 1 8 Try.underlying22 hi iz0 iz1 iz2 rfl (by decide) _ _ _ rfl (World.ownsRow.alloc HRF.out _) ⟨wr.heap.size, 0, none⟩ 1 1 [.int .i64 ((r % m : Nat) : Int)] rfl rfl ?a1 ?a2 ?a3 ?a4 ?a5 ?_)
              case a1 => exact cell_one_new _ _ _
              case a2 => intro u hu; simp at hu; subst hu; rfl
              case a3 => unfold maxLen; omega
              case a4 => omega
              case a5 => simp; omega
              intro v' w6 hown hgrow _
              have HR6 := Lib.hid (Row.appended (l := fl (dgt m n) k) (by rw [hln]; exact hown))
              have HO6 := Lib.hid ((HRO.out.alloc (.cells #[.int .i64 ((r % m : Nat) : Int)] 3)).keep (w' := w6) fun g hg => by
                cases hg
                exact hgrow.block _ (by simp; omega) fun e => absurd (show S ≤ G from (hne _ e.symm).1) (by omega))
              have hb : Below w.heap.size w (wr.alloc (.cells #[.int .i64 ((r % m : Nat) : Int)] 3)) := HBK.out.alloc HBK.out.size _
              have HB6 := Lib.hid (hb.grown hgrow (by simp; omega) (fun g hg => by have := (hne g hg).1; omega))
              have hz6 := hgrow.size
              simp at hz6
              clear hown hgrow hb hne
              go_wp2
              go_roundw
              case rel => exact ⟨k + 1, by omega, by go_num, by rw [← HRD.out]; rfl, by rw [HFSS.out]; exact HR6.out, HO6.out, by omega, HB6.out⟩
              case measure => simp [intOf]; omega
            · obtain rfl : d = k := by omega
              generalize n / m ^ d = r at *
              have hrb : r ≤ 20000 := by omega
              have hwr : IntKind.i64.wrap (1 + (r : Int)) = 1 + (r : Int) := IntWalk.i64_in _ (by omega)
              have HRE : Hid ((1 : Int) + (r : Int) = ((1 + r : Nat) : Int)) := Lib.hid (by omega)
              clear hrf hro hbk
              go_wp2_with (at_builtin; refine wpList_append_own _ rfl _ _ 22 rfl S 3 i0 (.int .i64 0) 1 8 Try.underlying22 hi iz0 iz1 iz2 rfl (by decide) _ _ _ rfl (World.ownsRow.alloc HRF.out _) ⟨wr.heap.size, 0, none⟩ 1 1 [.int .i64 (1 + (r : Int))] rfl rfl ?b1 ?b2 ?b3 ?b4 ?b5 ?_)
              case b1 => exact cell_one_new _ _ _
              case b2 => intro u hu; simp at hu; subst hu; rfl
              case b3 => unfold maxLen; omega
              case b4 => omega
              case b5 => simp; omega
              intro v' w6 hown hgrow _
              have HR6 : Hid (Row w6 S v' (FN m d n)) := Lib.hid (by
                rw [HAPP'.out, ← HRE.out]
                exact Row.appended (l := fl (dgt m n) d) (by rw [hln]; exact hown))
              have HO6 := Lib.hid ((HRO.out.alloc (.cells #[.int .i64 (1 + (r : Int))] 3)).keep (w' := w6) fun g hg => by
                cases hg
                exact hgrow.block _ (by simp; omega) fun e => absurd (show S ≤ G from (hne _ e.symm).1) (by omega))
              have hb : Below w.heap.size w (wr.alloc (.cells #[.int .i64 (1 + (r : Int))] 3)) := HBK.out.alloc HBK.out.size _
              have HB6 := Lib.hid (hb.grown hgrow (by simp; omega) (fun g hg => by have := (hne g hg).1; omega))
              clear hown hgrow hb hne
              go_wp2_with fail
              refine (HV'.out _ _ HR6.out.sl).mono ?_
              rintro e w7 ⟨v7, rfl, hr7, hb7⟩
              have HR7 := Lib.hid hr7
              have HO7 := Lib.hid (HO6.out.below hb7)
              have HB7 : Hid (Below w.heap.size w w7) := Lib.hid (HB6.out.trans (hb7.mono HB6.out.size))
              clear hr7 hb7
              go_wp2_with fail
              refine (HA'.out _ _ HR7.out.sl).mono ?_
              rintro e w8 ⟨v8, rfl, hr8, hb8⟩
              obtain ⟨a8, cap8, hv8⟩ := hr8.sl.form
              rw [HNVV.out] at hv8
              subst hv8
              have ho8 := HO7.out.below hb8
              have hc8 := Row.cell (l := fl (oc (TSp m d) n) (m + 1)) (cap := m + 1) (by rw [fl_len]; exact ho8) N (by rw [fl_len]; omega)
              rw [fl_get _ _ _ (by omega)] at hc8
              have hf8 := ho8.frozen (by rw [fl_len]) N
              have HST := Lib.hid (ho8.store (by rw [fl_len]) N (oc (TSp m d) n N + 1))
              have HUP : Hid ((fl (oc (TSp m d) n) (m + 1)).set N (oc (TSp m d) n N + 1) = fl (oc (TSp m d) (n + 1)) (m + 1)) := Lib.hid (by rw [fl_set, HSUU.out])
              rw [HUP.out] at HST
              have HB8 : Hid (Below w.heap.size w w8) := Lib.hid (HB7.out.trans (hb8.mono HB7.out.size))
              have hG8 : G < w8.heap.size := (ho8.lt _ rfl).2
              have hNI : (N : Int) < ((m + 1 : Nat) : Int) := by omega
              clear hr8 hb8 ho8 HUP
              generalize oc (TSp m d) n N = c at *
              go_wp2
              go_roundw
              case rel => exact ⟨n + 1, by omega, by go_num, HST.out, by simp; omega, HB8.out.setCell (p := ⟨G, N, none⟩) hGlo _⟩
              case measure => simp [intOf]; omega
        · obtain rfl : A = n := by omega
          go_wp2
          go_ret2
          exact ⟨_, rfl, by rw [HAA.out]; exact HRN.out, HBN.out⟩
end Go.Proofs.Ytnmdcmbcackchab
