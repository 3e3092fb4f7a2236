/- CountPlanar, of both, by contracts; the walk of its law. -/
import Derived.Test.YtgndlpdcebmgmabSP
import Derived.Test.YtgndlpdcebmgmabSB
namespace Go.Proofs.Ytgndlpdcebmgmab
open Go.RowKit
/-- 3 or 5. -/
def cpOK (q : Int) : Bool := isSz q && (decide (q % 2 = 1) && decide (q ≤ 5))
theorem cpOK_yes {q : Int} (h : cpOK q = true) : ∃ m : Nat, q = m ∧ (m = 3 ∨ m = 5) := by
  simp only [cpOK, Bool.and_eq_true, decide_eq_true_iff] at h
  have hq := isSz_le q h.1
  obtain ⟨m, rfl⟩ := Int.eq_ofNat_of_zero_le (show 0 ≤ q by omega)
  exact ⟨m, rfl, by omega⟩
theorem part0_zP (m : Nat) (f : Nat → Int) : fl (part0 f 0) m = fl (fun _ => 0) m := fl_congr fun i _ => by simp [part0]
theorem tN_step (m j k : Nat) : ((j / m ^ k % m : Nat) : Int) = tN m j k ∧ j / m ^ k / m = j / m ^ (k + 1) := ⟨rfl, by rw [Nat.pow_succ, Nat.div_div_eq_div_mul]⟩
theorem spec_CountPlanar_no1 (q : Int) (w : World) (h : isSz q = false) :
    Calls Try.prog 13 #[.int .i64 q] w fun e w' => e = .returned (.tuple #[.int .i64 0, .bool false]) ∧ Below w.heap.size w w' := by
  have hp := fdSize_any q w
  rw [h] at hp
  have HP := Lib.hid hp
  clear hp h
  go_enter Try.func13, Try.ntmps13
  go_wp2_with fail
  refine HP.out.mono ?_
  rintro e w1 ⟨rfl, hb1⟩
  go_wp2_with fail
  go_ret2
  exact ⟨rfl, hb1⟩
theorem spec_CountPlanar_no2 (m : Nat) (w : World) (h : isSz (m : Int) = true) (ho : (m : Int) % 2 = 0) :
    Calls Try.prog 13 #[.int .i64 m] w fun e w' => e = .returned (.tuple #[.int .i64 0, .bool false]) ∧ Below w.heap.size w w' := by
  have hp := fdSize_any (m : Int) w
  rw [h] at hp
  have HP := Lib.hid hp
  have hm0 : ((m : Int) % 2 == 0) = true := by rw [ho]; rfl
  have hm1 : (m : Int).tmod 2 = 0 := by rw [Int.tmod_eq_emod_of_nonneg (by omega)]; exact ho
  clear hp h ho
  go_enter Try.func13, Try.ntmps13
  go_wp2_with fail
  refine HP.out.mono ?_
  rintro e w1 ⟨rfl, hb1⟩
  go_wp2_with fail
  go_ret2
  exact ⟨rfl, hb1⟩
theorem spec_CountPlanar_no3 (m : Nat) (w : World) (h : isSz (m : Int) = true) (ho : (m : Int) % 2 = 1) (h5 : 5 < m) :
    Calls Try.prog 13 #[.int .i64 m] w fun e w' => e = .returned (.tuple #[.int .i64 0, .bool false]) ∧ Below w.heap.size w w' := by
  have hp := fdSize_any (m : Int) w
  rw [h] at hp
  have HP := Lib.hid hp
  have HL := Lib.hid (fun w => by
    have := l1In_any (m : Int) 3 5 w
    rw [decide_eq_false (show ¬ (m : Int) ≤ 5 by omega), Bool.and_false] at this
    exact this)
  have hm0 : ((m : Int) % 2 == 0) = false := by rw [ho]; rfl
  have hm1 : (m : Int).tmod 2 = 1 := by rw [Int.tmod_eq_emod_of_nonneg (by omega)]; exact ho
  clear hp h ho
  go_enter Try.func13, Try.ntmps13
  go_wp2_with fail
  refine HP.out.mono ?_
  rintro e w1 ⟨rfl, hb1⟩
  have HB1 := Lib.hid hb1; clear hb1
  go_wp2_with fail
  refine (HL.out _).mono ?_
  rintro e _ ⟨rfl, rfl⟩
  go_wp2_with fail
  go_ret2
  exact ⟨rfl, HB1.out⟩
theorem impl_CountPlanar_no1 (q : Int) (w : World) (h : isSz q = false) :
    Calls Try.prog 14 #[.int .i64 q] w fun e w' => e = .returned (.tuple #[.int .i64 0, .bool false]) ∧ Below w.heap.size w w' := by
  have HP := Lib.hid (fun w => fieldOf_no q w h)
  clear h
  go_enter Try.func14, Try.ntmps14
  go_wp2_with fail
  refine (HP.out _).mono ?_
  rintro e w1 ⟨rfl, hb1⟩
  have HB1 := Lib.hid hb1; clear hb1
  go_wp2_with fail
  go_ret2
  have hb1 := HB1.out
  have hz1 := hb1.size
  exact ⟨rfl, by (repeat' (first | (with_reducible assumption) | (with_reducible exact Below.refl _ _) | (with_reducible refine below_drewN ?_ _) | (with_reducible refine Below.drew ?_) | (with_reducible refine Below.alloc ?_ ?_ _) | (with_reducible refine Below.setCell ?_ ?_ _) | (with_reducible refine Below.trans ?_ (Below.mono (by assumption) ?_)) | (with_reducible exact Nat.le_refl _) | (with_reducible assumption) | omega | (simp; omega) | (simp; done)))⟩
theorem impl_CountPlanar_no2 (m : Nat) (w : World) (h : isSz (m : Int) = true) (ho : (m : Int) % 2 = 0) :
    Calls Try.prog 14 #[.int .i64 m] w fun e w' => e = .returned (.tuple #[.int .i64 0, .bool false]) ∧ Below w.heap.size w w' := by
  have HP := Lib.hid (fun w => fieldOf_yes (m : Int) w h)
  have hm0 : ((m : Int) % 2 == 0) = true := by rw [ho]; rfl
  have hm1 : (m : Int).tmod 2 = 0 := by rw [Int.tmod_eq_emod_of_nonneg (by omega)]; exact ho
  clear h ho
  go_enter Try.func14, Try.ntmps14
  go_wp2_with fail
  refine (HP.out _).mono ?_
  rintro e w1 ⟨rfl, hb1⟩
  have HB1 := Lib.hid hb1; clear hb1
  go_wp2_with fail
  go_ret2
  have hb1 := HB1.out
  have hz1 := hb1.size
  exact ⟨rfl, by (repeat' (first | (with_reducible assumption) | (with_reducible exact Below.refl _ _) | (with_reducible refine below_drewN ?_ _) | (with_reducible refine Below.drew ?_) | (with_reducible refine Below.alloc ?_ ?_ _) | (with_reducible refine Below.setCell ?_ ?_ _) | (with_reducible refine Below.trans ?_ (Below.mono (by assumption) ?_)) | (with_reducible exact Nat.le_refl _) | (with_reducible assumption) | omega | (simp; omega) | (simp; done)))⟩
theorem impl_CountPlanar_no3 (m : Nat) (w : World) (h : isSz (m : Int) = true) (ho : (m : Int) % 2 = 1) (h5 : 5 < m) :
    Calls Try.prog 14 #[.int .i64 m] w fun e w' => e = .returned (.tuple #[.int .i64 0, .bool false]) ∧ Below w.heap.size w w' := by
  have HP := Lib.hid (fun w => fieldOf_yes (m : Int) w h)
  have hm0 : ((m : Int) % 2 == 0) = false := by rw [ho]; rfl
  have hm1 : (m : Int).tmod 2 = 1 := by rw [Int.tmod_eq_emod_of_nonneg (by omega)]; exact ho
  have h5' : (5 : Int) < (m : Int) := by omega
  clear h ho
  go_enter Try.func14, Try.ntmps14
  go_wp2_with fail
  refine (HP.out _).mono ?_
  rintro e w1 ⟨rfl, hb1⟩
  have HB1 := Lib.hid hb1; clear hb1
  go_wp2_with fail
  go_ret2
  have hb1 := HB1.out
  have hz1 := hb1.size
  exact ⟨rfl, by (repeat' (first | (with_reducible assumption) | (with_reducible exact Below.refl _ _) | (with_reducible refine below_drewN ?_ _) | (with_reducible refine Below.drew ?_) | (with_reducible refine Below.alloc ?_ ?_ _) | (with_reducible refine Below.setCell ?_ ?_ _) | (with_reducible refine Below.trans ?_ (Below.mono (by assumption) ?_)) | (with_reducible exact Nat.le_refl _) | (with_reducible assumption) | omega | (simp; omega) | (simp; done)))⟩
set_option maxRecDepth 100000 in
set_option maxHeartbeats 4000000 in
theorem impl_CountPlanar_yes (m : Nat) (w : World) (hm : m = 3 ∨ m = 5) :
    Calls Try.prog 14 #[.int .i64 m] w fun e w' => e = .returned (.tuple #[.int .i64 ((m : Int) * m * (m - 1)), .bool true]) ∧ Below w.heap.size w w' := by
  have h := isSz35 hm
  have HP := Lib.hid (fun w => fieldOf_yes (m : Int) w h)
  have hpr : pr (m : Int) = m := by rcases hm with rfl | rfl <;> decide
  have ho : (m : Int) % 2 = 1 := by omega
  have hm0 : ((m : Int) % 2 == 0) = false := by rw [ho]; rfl
  have hm1 : (m : Int).tmod 2 = 1 := by rw [Int.tmod_eq_emod_of_nonneg (by omega)]; exact ho
  have h5 : ¬ (5 : Int) < (m : Int) := by omega
  rw [hpr] at HP
  clear h hpr ho
  rcases hm with rfl | rfl
  all_goals
    go_enter Try.func14, Try.ntmps14
    go_wp2_with fail
    refine (HP.out _).mono ?_
    rintro e w1 ⟨rfl, hb1⟩
    have HB1 := Lib.hid hb1; clear hb1
    go_wp2_with fail
    go_ret2
    have hb1 := HB1.out
    have hz1 := hb1.size
    exact ⟨rfl, by (repeat' (first | (with_reducible assumption) | (with_reducible exact Below.refl _ _) | (with_reducible refine below_drewN ?_ _) | (with_reducible refine Below.drew ?_) | (with_reducible refine Below.alloc ?_ ?_ _) | (with_reducible refine Below.setCell ?_ ?_ _) | (with_reducible refine Below.trans ?_ (Below.mono (by assumption) ?_)) | (with_reducible exact Nat.le_refl _) | (with_reducible assumption) | omega | (simp; omega) | (simp; done)))⟩
set_option maxRecDepth 100000 in
set_option maxHeartbeats 4000000 in
theorem spec_CountPlanar_yes (m : Nat) (w : World) (hm : m = 3 ∨ m = 5) :
    Calls Try.prog 13 #[.int .i64 m] w fun e w' => e = .returned (.tuple #[.int .i64 ((m : Int) * m * (m - 1)), .bool true]) ∧ Below w.heap.size w w' := by
  obtain ⟨i0, hi, iz0, iz1, iz2⟩ := info_parts Try.infoI
  have h := isSz35 hm
  have hm35 : 3 ≤ m ∧ m ≤ 5 := by omega
  have hp := fdSize_any (m : Int) w
  rw [h] at hp
  have HP := Lib.hid hp
  have HL := Lib.hid (fun w => by
    have := l1In_any (m : Int) 3 5 w
    rw [decide_eq_true (show (m : Int) ≤ 5 by omega), decide_eq_true (show (3 : Int) ≤ (m : Int) by omega), Bool.and_true] at this
    exact this)
  have ho : (m : Int) % 2 = 1 := by omega
  have hm0 : ((m : Int) % 2 == 0) = false := by rw [ho]; rfl
  have hm1 : (m : Int).tmod 2 = 1 := by rw [Int.tmod_eq_emod_of_nonneg (by omega)]; exact ho
  obtain ⟨E, hE⟩ : ∃ E : Nat → Nat, ∀ k, m ^ k = E k := ⟨_, fun _ => rfl⟩
  have hpw := pow35 hm
  have hall := cpl_all hm
  have hps : ∀ k, ((m ^ k : Nat) : Int) * m = ((m ^ (k + 1) : Nat) : Int) := fun k => by rw [Nat.pow_succ, Int.natCast_mul]
  have hts := tN_step m
  have he0 : m ^ 0 = 1 := rfl
  simp only [hE] at hpw hall hps hts he0
  have HPW := Lib.hid hpw
  have HPS := Lib.hid hps
  have HTS := Lib.hid hts
  have HALL := Lib.hid hall
  have HE0 := Lib.hid he0
  have HMO := Lib.hid (fun (j : Nat) v' w' (hs : Sl w' v' (fl (tN m j) m)) => dfMost_any m v' (tN m j) w' h hs (fun i _ => tN_el (by omega) i))
  have HGR := Lib.hid (fun j => plC_gr (m := m) j hm)
  have HCS := Lib.hid (cpl_succ m)
  have HCL := Lib.hid (cpl_le m)
  have HUPD := Lib.hid (fun j k => part0_step (tN m j) k)
  have HC0 : Hid (cpl m 0 = 0) := Lib.hid rfl
  have hmz : ¬ (m : Int) = 0 := by omega
  have hmz' : ¬ m = 0 := by omega
  clear hp h hm ho hpw hall hps hts he0 hE
  go_enter Try.func13, Try.ntmps13
  go_wp2_with fail
  refine HP.out.mono ?_
  rintro e w1 ⟨rfl, hb1⟩
  have HB1 := Lib.hid hb1; clear hb1
  go_wp2_with fail
  refine (HL.out _).mono ?_
  rintro e _ ⟨rfl, rfl⟩
  go_wp2_with fail
  go_loopw [5, 6] (fun va vk wr => ∃ k : Nat, k ≤ m ∧ vk = .int .i64 k ∧ va = .int .i64 ((E k : Nat) : Int) ∧ w1 = wr) (fun _ vk _ => m - (intOf vk).toNat)
  case atStart => exact ⟨0, Nat.zero_le _, rfl, by rw [HE0.out]; rfl, by first | rfl | trivial⟩
  case round =>
    obtain ⟨k, hk, rfl, rfl, rfl⟩ := hrel
    have p1 := HPW.out k hk
    by_cases hlt : k < m
    · have p2 := HPW.out (k + 1) hlt
      have s1 := HPS.out k
      obtain ⟨B, hB⟩ : ∃ B, E (k + 1) = B := ⟨_, rfl⟩
      rw [hB] at p2 s1
      have HBE := Lib.hid hB
      clear hB
      generalize E k = A at *
      have hwb : IntKind.i64.wrap (B : Int) = (B : Int) := IntWalk.i64_in _ (by omega)
      go_wp2
      go_roundw
      case rel => exact ⟨k + 1, by omega, by go_num, by rw [HBE.out], by first | rfl | trivial⟩
      case measure => (simp [intOf]; try omega)
    · obtain rfl : m = k := by omega
      obtain ⟨all, hall⟩ : ∃ all, E m = all := ⟨_, rfl⟩
      rw [hall] at p1
      have HAE := Lib.hid hall
      rw [hall] at HALL ⊢
      clear hall
      go_wp2_with fail
      go_loopw [4, 7] (fun vc vj wr => ∃ j : Nat, j ≤ all ∧ vj = .int .i64 j ∧ vc = .int .i64 (cpl m j) ∧ Below w1.heap.size w1 wr) (fun _ vj _ => all - (intOf vj).toNat)
      case atStart => exact ⟨0, Nat.zero_le _, rfl, by rw [HC0.out]; rfl, Below.refl _ _⟩
      case round =>
        obtain ⟨j, hj, rfl, rfl, hbw⟩ := hrel
        have HBR := Lib.hid hbw
        have hz := hbw.size
        clear hbw
        have hcl := HCL.out j
        by_cases hlj : j < all
        · have HCSj := Lib.hid (HCS.out j)
          have HGRj := Lib.hid (HGR.out j)
          have HMOj := Lib.hid (HMO.out j)
          have HTSj := Lib.hid (HTS.out j)
          have HUPj := Lib.hid (HUPD.out j)
          have HCLN := Lib.hid (HCL.out (j + 1))
          obtain ⟨P, hP⟩ : ∃ P, P = wr.heap.size := ⟨_, rfl⟩
          obtain ⟨c, hc⟩ : ∃ c, cpl m j = c := ⟨_, rfl⟩
          rw [hc] at HCSj hcl ⊢
          clear hc
          go_wp2_with (at_make; refine wpList_make_full _ rfl _ _ 25 rfl wr.heap.size 3 i0 (.int .i64 0) 1 Try.underlying25 hi iz0 iz1 .i64 .i64 _ _ m rfl rfl rfl rfl ?c3 ?c4 ?c5 ?_)
          case c3 => rw [iz2]; omega
          case c4 => unfold maxLen; omega
          case c5 => omega
          intro w5 hown hgrow
          rw [← hP] at hown ⊢
          have HR5 : Hid (Row w5 P (.slice (some ⟨P, 0, none⟩) m m) (fl (part0 (tN m j) 0) m)) := Lib.hid (Row.madeF (tN m j) hown)
          have HB5 : Hid (Below w1.heap.size w1 w5) := Lib.hid (HBR.out.trans (((Below.refl wr.heap.size wr).grown hgrow (Nat.le_refl _) (fun k hk => by cases hk)).mono hz))
          have hgl5 : P < w5.heap.size := (HR5.out.lt P rfl).2
          have hP1 : w1.heap.size ≤ P := by omega
          clear hown hgrow hP
          generalize tN m j = T at *
          go_wp2_with fail
          go_loopw [9, 42] (fun vr vk ws => ∃ k : Nat, k ≤ m ∧ vk = .int .i64 k ∧ vr = .int .i64 ((j / E k : Nat) : Int) ∧ Row ws P (.slice (some ⟨P, 0, none⟩) m m) (fl (part0 T k) m) ∧ P < ws.heap.size ∧ Below w1.heap.size w1 ws) (fun _ vk _ => m - (intOf vk).toNat)
          case atStart => exact ⟨0, Nat.zero_le _, rfl, by rw [HE0.out, Nat.div_one], HR5.out, hgl5, HB5.out⟩
          case round =>
            obtain ⟨k, hk, rfl, rfl, hr, hgl, hbs⟩ := hrel
            have HBS := Lib.hid hbs
            clear hbs
            by_cases hlk : k < m
            · obtain ⟨h1, h2⟩ := HTSj.out k
              have hR : j / E k ≤ 3125 := Nat.le_trans (Nat.div_le_self _ _) (by omega)
              have HUPk := Lib.hid (HUPj.out k)
              have e2 := Row.cell (l := fl (part0 T k) m) (cap := m) (by rw [fl_len]; exact hr) k (by rw [fl_len]; exact hlk)
              have f2 := hr.frozen (by rw [fl_len]) k
              have HST := Lib.hid (hr.store (by rw [fl_len]) k (T k))
              rw [← h1] at HST
              clear hr
              have H2 := Lib.hid h2
              have HT1 := Lib.hid h1
              clear h1 h2
              generalize (fl (part0 T k) m).getD k 0 = u at *
              have HR0 : Hid (∃ R, j / E k = R) := Lib.hid ⟨_, rfl⟩
              obtain ⟨R, hRR⟩ := HR0.out
              rw [hRR] at hR H2 HT1 HST ⊢
              clear hRR HR0
              have hmod : (R : Int).tmod (m : Int) = ((R % m : Nat) : Int) := rfl
              have hquo : (R : Int).tdiv (m : Int) = ((R / m : Nat) : Int) := rfl
              have hq2 : R / m ≤ 3125 := Nat.le_trans (Nat.div_le_self _ _) hR
              generalize R % m = X at *
              generalize R / m = Y at *
              have hwy : IntKind.i64.wrap (Y : Int) = (Y : Int) := IntWalk.i64_in _ (by omega)
              go_wp2
              go_roundw
              case rel =>
                refine ⟨k + 1, by omega, by go_num, by rw [← H2.out], ?_, by simp; omega, HBS.out.setCell (by omega) _⟩
                rw [← HUPk.out, ← fl_set, ← HT1.out]
                exact HST.out
              case measure => (simp [intOf]; try omega)
            · obtain rfl : m = k := by omega
              rw [part0_all] at hr
              have HRf := Lib.hid hr
              clear hr
              generalize gr (spr m T) m = G at *
              go_wp2_with fail
              refine (HMOj.out _ _ HRf.out.sl).mono ?_
              rintro e w7 ⟨rfl, hb7⟩
              have HB7 : Hid (Below w1.heap.size w1 w7) := Lib.hid (HBS.out.trans (hb7.mono HBS.out.size))
              clear hb7
              by_cases hg : G = 1
              · subst hg
                have HN : Hid (cpl m (j + 1) = c + 1) := Lib.hid (by rw [HCSj.out, HGRj.out]; rfl)
                have hwc : IntKind.i64.wrap ((c : Int) + 1) = (c : Int) + 1 := IntWalk.i64_in _ (by omega)
                go_wp2
                go_roundw
                case rel => exact ⟨j + 1, by omega, by go_num, by rw [HN.out]; rfl, HB7.out⟩
                case measure => (simp [intOf]; try omega)
              · have HN : Hid (cpl m (j + 1) = c) := Lib.hid (by rw [HCSj.out, HGRj.out, decide_eq_false hg]; rfl)
                have hgb : ((G : Int) == 1) = false := by simp; omega
                have hgn : ¬ (G : Int) = 1 := by omega
                clear hg
                go_wp2
                go_roundw
                case rel => exact ⟨j + 1, by omega, by go_num, by rw [HN.out], HB7.out⟩
                case measure => (simp [intOf]; try omega)
        · obtain rfl : all = j := by omega
          have HBF : Hid (Below w.heap.size w wr) := Lib.hid (HB1.out.trans (HBR.out.mono HB1.out.size))
          go_wp2
          go_ret2
          exact ⟨by rw [HALL.out]; rfl, HBF.out⟩
theorem key_CountPlanar (q : Int) : ∃ (r : Int) (o : Bool), (∀ (w : World), Calls Try.prog 13 #[.int .i64 q] w fun e w' => e = .returned (.tuple #[.int .i64 r, .bool o]) ∧ Below w.heap.size w w') ∧
      (∀ (w : World), Calls Try.prog 14 #[.int .i64 q] w fun e w' => e = .returned (.tuple #[.int .i64 r, .bool o]) ∧ Below w.heap.size w w') := by
  cases h : isSz q with
  | false => exact ⟨0, false, fun w => spec_CountPlanar_no1 q w h, fun w => impl_CountPlanar_no1 q w h⟩
  | true =>
    have hq := isSz_le q h
    obtain ⟨m, rfl⟩ := Int.eq_ofNat_of_zero_le (show 0 ≤ q by omega)
    by_cases ho : (m : Int) % 2 = 1
    · by_cases h5 : m ≤ 5
      · have hm : m = 3 ∨ m = 5 := by omega
        exact ⟨_, true, fun w => spec_CountPlanar_yes m w hm, fun w => impl_CountPlanar_yes m w hm⟩
      · exact ⟨0, false, fun w => spec_CountPlanar_no3 m w h ho (by omega), fun w => impl_CountPlanar_no3 m w h ho (by omega)⟩
    · exact ⟨0, false, fun w => spec_CountPlanar_no2 m w h (by omega), fun w => impl_CountPlanar_no2 m w h (by omega)⟩
set_option maxRecDepth 100000 in
set_option maxHeartbeats 4000000 in
/-- laws.FnExactCountPlanar. -/
theorem walk_FnExactCountPlanar (q : Int) (w : World) (_h_q : (Lit.int .i64 q).wf = true) :
    Calls Try.prog 3 #[.int .i64 q] w fun e w' => e = .returned (.bool true) ∧ Below w.heap.size w w' := by
  clear _h_q
  obtain ⟨r, o, k1, k2⟩ := key_CountPlanar q
  have K1 := Lib.hid k1; clear k1
  have K2 := Lib.hid k2; clear k2
  have HB0 : Hid (Below w.heap.size w w) := Lib.hid (Below.refl _ _)
  go_enter Try.func3, Try.ntmps3
  go_wp2_with fail
  refine (K1.out _ ).mono ?_
  rintro e w1 ⟨rfl, hbw1⟩
  have hzw1 : w.heap.size ≤ w1.heap.size := hbw1.size
  have HBw1 : Hid (Below w.heap.size w w1) := Lib.hid (HB0.out.trans (hbw1.mono HB0.out.size))
  have hww1 := HBw1.out.size
  clear hbw1 HB0
  go_wp2_with fail
  refine (K2.out _ ).mono ?_
  rintro e w2 ⟨rfl, hbw2⟩
  have hzw2 : w1.heap.size ≤ w2.heap.size := hbw2.size
  have HBw2 : Hid (Below w.heap.size w w2) := Lib.hid (HBw1.out.trans (hbw2.mono HBw1.out.size))
  have hww2 := HBw2.out.size
  clear hbw2 HBw1
  go_wp2
  go_ret
  exact ⟨rfl, HBw2.out⟩
end Go.Proofs.Ytgndlpdcebmgmab
