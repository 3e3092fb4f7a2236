/- MapsWithValues, of both, by contracts; the walk of its law. -/
import Derived.Test.YtnmdcmbcackchabQM
import Derived.Test.YtnmdcmbcackchabKM
import Derived.Deep.RegionWith
namespace Go.Proofs.Ytnmdcmbcackchab
open Go.RowKit
def mwOK (q k : Int) : Bool := isSz q && (decide (q ≤ 13) && (decide (0 ≤ k) && decide (k ≤ q)))
theorem part0_zz (m : Nat) : fl (part0 (fun _ => 0) 0) m = fl (fun _ => 0) m := fl_congr fun i _ => by simp [part0]
set_option maxRecDepth 100000 in
set_option maxHeartbeats 8000000 in
/-- impl.field.mapsWithValues. -/
theorem mapsE (m k : Nat) (w : World) (hm2 : 2 ≤ m) (hm : m ≤ 13) (hk : k ≤ m) :
    Calls Try.prog 58 #[fdE (m : Int), .int .i64 k] w fun e w' => e = .returned (.int .i64 (wy m m k)) ∧ Below w.heap.size w w' := by
  obtain ⟨i0, hi, iz0, iz1, iz2⟩ := info_parts Try.infoI
  have HSM := Lib.hid (fun x j (hx : x ≤ m) (hj : j ≤ m) => wy_small (q := m) (x := x) (j := j) hm hx hj)
  have HPA := Lib.hid (fun x j (hj : j ≤ m) => wst_parts (q := m) (x := x) (j := j) hj)
  have HDN := Lib.hid (fun x met (h : 0 < met) => wdn_step (q := m) (c := wy m x) (met := met) h)
  have HDZ := Lib.hid (fun x => wdn_zero m (wy m x))
  have HWS : Hid (∀ x, wst m (wy m x) = wy m (x + 1)) := Lib.hid fun _ => rfl
  have HTOP : Hid (∀ x, fl (wdn m (wy m x) k) (k + 1) = fl (wy m x) (k + 1)) := Lib.hid fun x => fl_congr fun i hi => by unfold wdn; rw [if_neg (by omega)]
  have HLO : Hid (∀ x met j, j ≤ met → wdn m (wy m x) met j = wy m x j) := Lib.hid fun x met j h => by unfold wdn; rw [if_neg (by omega)]
  have H0 : Hid (upd (fun _ => 0) 0 1 = wy m 0) := Lib.hid (by funext j; unfold upd; rfl)
  have hwk : IntKind.i64.wrap ((k : Int) + 1) = (k : Int) + 1 := IntWalk.i64_in _ (by omega)
  go_enter Try.func58, Try.ntmps58
  go_wp2_with (at_make; refine wpList_make_full _ rfl _ _ 22 rfl (w.heap.size + 1) 3 i0 (.int .i64 0) 1 Try.underlying22 hi iz0 iz1 .i64 .i64 _ _ (k + 1) rfl rfl rfl rfl ?c3 ?c4 ?c5 ?_)
  case c3 => rw [iz2]; omega
  case c4 => unfold maxLen; omega
  case c5 => simp
  intro w1 hown hgrow
  obtain ⟨K, hK⟩ : ∃ K, k + 1 = K := ⟨_, rfl⟩
  rw [hK] at hown HTOP ⊢
  have hK0 : 0 < K := by omega
  have hKk : k < K := by omega
  have hKm : K ≤ 14 := by omega
  have HF1 : Hid (w1.heap[w.heap.size]? = some (ffblk (m : Int))) := Lib.hid ((hgrow.block _ (by simp) (fun e => by cases e)).trans (heap_alloc_new w _))
  have hr : Row w1 (w.heap.size + 1) (.slice (some ⟨w.heap.size + 1, 0, none⟩) K K) (fl (fun _ => 0) K) := by
    have := Row.madeF (fun _ => 0) (by simpa using hown)
    rw [part0_zz] at this
    exact this
  have hb1 : Below w.heap.size w w1 := ((Below.refl w.heap.size w).alloc (Nat.le_refl _) _).grown hgrow (by simp) (fun k hk => by cases hk)
  have hgl : w.heap.size + 1 < w1.heap.size := (hr.lt _ rfl).2
  have hc0 := Row.cell (l := fl (fun _ => 0) K) (cap := K) (by rw [fl_len]; exact hr) 0 (by rw [fl_len]; exact hK0)
  have hf0 := hr.frozen (by rw [fl_len]) 0
  have HR1 := Lib.hid (hr.store (by rw [fl_len]) 0 1)
  have HB1 := Lib.hid hb1
  clear hown hgrow hr hb1
  generalize (fl (fun _ => 0) K).getD 0 0 = z0 at *
  obtain ⟨y0, y1, y2, yf, yl⟩ := cells3' HF1.out
  go_wp2_with fail
  go_loopw [14] (fun vi wr => ∃ x : Nat, x ≤ m ∧ vi = .int .i64 x ∧ Row wr (w.heap.size + 1) (.slice (some ⟨w.heap.size + 1, 0, none⟩) K K) (fl (wy m x) K) ∧ wr.heap[w.heap.size]? = some (ffblk (m : Int)) ∧ Below w.heap.size w wr) (fun vi _ => m - (intOf vi).toNat)
  case atStart =>
    refine ⟨0, Nat.zero_le _, rfl, ?_, (heap_setCell_other _ _ _ _ (by simp)).trans HF1.out, HB1.out.setCell (by simp) _⟩
    have := HR1.out
    rw [fl_set, H0.out] at this
    exact this
  case round =>
    obtain ⟨x, hx, rfl, hr, hf, hbw⟩ := hrel
    have HR := Lib.hid hr
    have HF := Lib.hid hf
    have HB := Lib.hid hbw
    by_cases hlt : x < m
    · clear hr hf hbw
      go_wp2_with fail
      go_loopw [6] (fun vm ws => ∃ met : Nat, met ≤ k ∧ vm = .int .i64 met ∧ Row ws (w.heap.size + 1) (.slice (some ⟨w.heap.size + 1, 0, none⟩) K K) (fl (wdn m (wy m x) met) K) ∧ ws.heap[w.heap.size]? = some (ffblk (m : Int)) ∧ Below w.heap.size w ws) (fun vm _ => (intOf vm).toNat)
      case atStart => exact ⟨k, Nat.le_refl _, rfl, by rw [HTOP.out]; exact HR.out, HF.out, HB.out⟩
      case round =>
        obtain ⟨met, hmet, rfl, hrs, hfs, hbs⟩ := hrel
        obtain ⟨x0, x1, x2, xf, xl⟩ := cells3' hfs
        have hc := fun j (hj : j < K) => Row.cell (l := fl (wdn m (wy m x) met) K) (cap := K) (by rw [fl_len]; exact hrs) j (by rw [fl_len]; exact hj)
        have hfr := fun j => hrs.frozen (by rw [fl_len]) j
        by_cases hpos : 0 < met
        · obtain ⟨j, rfl⟩ : ∃ j, met = j + 1 := ⟨met - 1, by omega⟩
          have hcA := hc (j + 1) (by omega)
          have hcB := hc j (by omega)
          rw [fl_get _ _ _ (by omega), HLO.out x (j + 1) (j + 1) (Nat.le_refl _)] at hcA
          rw [fl_get _ _ _ (by omega), HLO.out x (j + 1) j (by omega)] at hcB
          have hfA := hfr (j + 1)
          have hsA := HSM.out x (j + 1) (by omega) (by omega)
          have hsB := HSM.out x j (by omega) (by omega)
          have hsN := HSM.out (x + 1) (j + 1) (by omega) (by omega)
          obtain ⟨hp1, hp2, hp3⟩ := HPA.out x (j + 1) (by omega)
          have hp2' := hp2 (by omega)
          rw [if_neg (by omega)] at hp3
          rw [Nat.add_sub_cancel] at hp2' hp3
          have hup := HDN.out x (j + 1) (by omega)
          rw [Nat.add_sub_cancel, HWS.out] at hup
          have hst := hrs.store (by rw [fl_len]) (j + 1) (wy m (x + 1) (j + 1))
          rw [fl_set, hup] at hst
          have HST := Lib.hid hst
          have HFS := Lib.hid hfs
          have HBS := Lib.hid hbs
          have hz : (((j + 1 : Nat) : Int) - 1) = (j : Int) := by omega
          have hposI : (0 : Int) < ((j + 1 : Nat) : Int) := by omega
          obtain ⟨u, hu⟩ : ∃ u : Nat, (m : Int) - ((j + 1 : Nat) : Int) = (u : Int) := ⟨m - (j + 1), by omega⟩
          rw [hu] at hp2' hp3
          have hub : u ≤ 13 := by omega
          clear hc hfr hrs hfs hbs hup hst hp2
          generalize wy m (x + 1) (j + 1) = nw at *
          generalize wy m x (j + 1) = ya at *
          generalize wy m x j = yb at *
          obtain ⟨pa, hpa⟩ : ∃ p, ya * ((j + 1 : Nat) : Int) = p := ⟨_, rfl⟩
          obtain ⟨pb, hpb⟩ : ∃ p, yb * ((u : Int) + 1) = p := ⟨_, rfl⟩
          rw [hpa] at hp1 hp3
          rw [hpb] at hp2' hp3
          have hnw : pa + pb = nw := hp3.symm
          have HVAL : Hid (wrap64 (wrap64 (ya * ((j : Int) + 1)) + wrap64 (yb * ((m : Int) - ((j : Int) + 1) + 1))) = nw) := Lib.hid (by
            rw [show ya * ((j : Int) + 1) = pa from hpa, show (m : Int) - ((j : Int) + 1) = (u : Int) from hu, hpb, IntWalk.wrap64_in pa (by omega), IntWalk.wrap64_in pb (by omega), IntWalk.wrap64_in (pa + pb) (by omega), hnw])
          clear hpa hpb hu
          go_wp2_with fail
          go_region
          all_goals
            go_wp2
            go_roundw
            case rel => exact ⟨j, by omega, by first | rfl | go_num, by (have hst := HST.out; rw [← HVAL.out] at hst; exact hst.drew), (heap_setCell_other _ _ _ _ (by simp)).trans HFS.out, Below.drew (HBS.out.setCell (by simp) _)⟩
            case measure => simp [intOf]
        · obtain rfl : met = 0 := by omega
          have hc0 := hc 0 hK0
          have hf0 := hfr 0
          have hst := hrs.store (by rw [fl_len]) 0 0
          rw [fl_set, HDZ.out, HWS.out] at hst
          have HST := Lib.hid hst
          have HFS := Lib.hid hfs
          have HBS := Lib.hid hbs
          clear hc hfr hrs hfs hbs hst
          generalize (fl (wdn m (wy m x) 0) K).getD 0 0 = z1 at *
          go_wp2
          go_roundw
          case rel => exact ⟨x + 1, by omega, by go_num, HST.out, (heap_setCell_other _ _ _ _ (by simp)).trans HFS.out, HBS.out.setCell (by simp) _⟩
          case measure => simp [intOf]; omega
    · obtain rfl : m = x := by omega
      have hc := Row.cell (l := fl (wy m m) K) (cap := K) (by rw [fl_len]; exact hr) k (by rw [fl_len]; exact hKk)
      rw [fl_get _ _ _ hKk] at hc
      clear hr hf hbw
      go_wp2
      go_ret
      exact ⟨rfl, HB.out⟩
theorem mw_no {q k : Int} (h : mwOK q k = false) (hs : isSz q = true) : 13 < q ∨ (¬ 13 < q ∧ k < 0) ∨ (¬ 13 < q ∧ ¬ k < 0 ∧ q < k) := by
  simp only [mwOK, hs, Bool.true_and, Bool.and_eq_false_iff, decide_eq_false_iff_not] at h
  omega
theorem impl_MapsWithValues_no (q k : Int) (w : World) (h : mwOK q k = false) :
    Calls Try.prog 32 #[.int .i64 q, .int .i64 k] w fun e w' => e = .returned (.tuple #[.int .i64 0, .bool false]) ∧ Below w.heap.size w w' := by
  cases hs : isSz q with
  | false =>
    have HF := Lib.hid (fun w => fieldOf_no q w hs)
    clear hs h
    go_enter Try.func32, Try.ntmps32
    go_wp2_with fail
    refine (HF.out _).mono ?_
    rintro e w1 ⟨rfl, hb1⟩
    obtain ⟨hc1, hf1⟩ := bcell hb1; have hz1 := hb1.size; (try simp at hz1); have HB1 := Lib.hid hb1; clear hb1
    go_wp2
    go_ret2
    have hb1 := HB1.out
    exact ⟨rfl, by (repeat' (first | (with_reducible assumption) | (with_reducible exact Below.refl _ _) | (with_reducible refine below_drewN ?_ _) | (with_reducible refine Below.drew ?_) | (with_reducible refine Below.alloc ?_ ?_ _) | (with_reducible refine Below.setCell ?_ ?_ _) | (with_reducible refine Below.trans ?_ (Below.mono (by assumption) ?_)) | (with_reducible exact Nat.le_refl _) | (with_reducible assumption) | omega | (simp; omega) | (simp; done)))⟩
  | true =>
    have HF := Lib.hid (fun w => fieldOf_yes q w hs)
    have hc := mw_no h hs
    clear hs h
    rcases hc with h1 | ⟨h1, h2⟩ | ⟨h1, h2, h3⟩
    all_goals
      go_enter Try.func32, Try.ntmps32
      go_wp2_with fail
      refine (HF.out _).mono ?_
      rintro e w1 ⟨rfl, hb1⟩
      obtain ⟨hc1, hf1⟩ := bcell hb1; have hz1 := hb1.size; (try simp at hz1); have HB1 := Lib.hid hb1; clear hb1
      go_wp2
      go_ret2
      have hb1 := HB1.out
      exact ⟨rfl, by (repeat' (first | (with_reducible assumption) | (with_reducible exact Below.refl _ _) | (with_reducible refine below_drewN ?_ _) | (with_reducible refine Below.drew ?_) | (with_reducible refine Below.alloc ?_ ?_ _) | (with_reducible refine Below.setCell ?_ ?_ _) | (with_reducible refine Below.trans ?_ (Below.mono (by assumption) ?_)) | (with_reducible exact Nat.le_refl _) | (with_reducible assumption) | omega | (simp; omega) | (simp; done)))⟩
theorem spec_MapsWithValues_no (q k : Int) (w : World) (h : mwOK q k = false) :
    Calls Try.prog 31 #[.int .i64 q, .int .i64 k] w fun e w' => e = .returned (.tuple #[.int .i64 0, .bool false]) ∧ Below w.heap.size w w' := by
  have HS := Lib.hid (fun w => fdSize_any q w)
  have HI := Lib.hid (fun w => l1In_any k 0 q w)
  cases hs : isSz q with
  | false =>
    rw [hs] at HS
    clear hs h
    go_enter Try.func31, Try.ntmps31
    go_wp2_with fail
    refine (HS.out _).mono ?_
    rintro e w1 ⟨rfl, hb1⟩
    obtain ⟨hc1, hf1⟩ := bcell hb1; have hz1 := hb1.size; (try simp at hz1); have HB1 := Lib.hid hb1; clear hb1
    go_wp2
    go_ret2
    have hb1 := HB1.out
    exact ⟨rfl, by (repeat' (first | (with_reducible assumption) | (with_reducible exact Below.refl _ _) | (with_reducible refine below_drewN ?_ _) | (with_reducible refine Below.drew ?_) | (with_reducible refine Below.alloc ?_ ?_ _) | (with_reducible refine Below.setCell ?_ ?_ _) | (with_reducible refine Below.trans ?_ (Below.mono (by assumption) ?_)) | (with_reducible exact Nat.le_refl _) | (with_reducible assumption) | omega | (simp; omega) | (simp; done)))⟩
  | true =>
    have hc := mw_no h hs
    rw [hs] at HS
    clear hs h
    by_cases h1 : 13 < q
    · go_enter Try.func31, Try.ntmps31
      go_wp2_with fail
      refine (HS.out _).mono ?_
      rintro e w1 ⟨rfl, hb1⟩
      obtain ⟨hc1, hf1⟩ := bcell hb1; have hz1 := hb1.size; (try simp at hz1); have HB1 := Lib.hid hb1; clear hb1
      go_wp2
      go_ret2
      have hb1 := HB1.out
      exact ⟨rfl, by (repeat' (first | (with_reducible assumption) | (with_reducible exact Below.refl _ _) | (with_reducible refine below_drewN ?_ _) | (with_reducible refine Below.drew ?_) | (with_reducible refine Below.alloc ?_ ?_ _) | (with_reducible refine Below.setCell ?_ ?_ _) | (with_reducible refine Below.trans ?_ (Below.mono (by assumption) ?_)) | (with_reducible exact Nat.le_refl _) | (with_reducible assumption) | omega | (simp; omega) | (simp; done)))⟩
    · have hd : (decide (0 ≤ k) && decide (k ≤ q)) = false := by
        rw [Bool.and_eq_false_iff, decide_eq_false_iff_not, decide_eq_false_iff_not]
        omega
      rw [hd] at HI
      clear hd hc
      go_enter Try.func31, Try.ntmps31
      go_wp2_with fail
      refine (HS.out _).mono ?_
      rintro e w1 ⟨rfl, hb1⟩
      obtain ⟨hc1, hf1⟩ := bcell hb1; have hz1 := hb1.size; (try simp at hz1); have HB1 := Lib.hid hb1; clear hb1
      go_wp2_with fail
      refine (HI.out _).mono ?_
      rintro e _ ⟨rfl, rfl⟩
      go_wp2
      go_ret2
      have hb1 := HB1.out
      exact ⟨rfl, by (repeat' (first | (with_reducible assumption) | (with_reducible exact Below.refl _ _) | (with_reducible refine below_drewN ?_ _) | (with_reducible refine Below.drew ?_) | (with_reducible refine Below.alloc ?_ ?_ _) | (with_reducible refine Below.setCell ?_ ?_ _) | (with_reducible refine Below.trans ?_ (Below.mono (by assumption) ?_)) | (with_reducible exact Nat.le_refl _) | (with_reducible assumption) | omega | (simp; omega) | (simp; done)))⟩
theorem impl_MapsWithValues_yes (m k : Nat) (w : World) (h : isSz (m : Int) = true) (hm : m ≤ 13) (hk : k ≤ m) :
    Calls Try.prog 32 #[.int .i64 m, .int .i64 k] w fun e w' => e = .returned (.tuple #[.int .i64 (wy m m k), .bool true]) ∧ Below w.heap.size w w' := by
  have hq := isSz_le (m : Int) h
  have HF := Lib.hid (fun w => fieldOf_yes (m : Int) w h)
  have HM := Lib.hid (fun w => mapsE m k w (by omega) hm hk)
  have h1 : ¬ (13 : Int) < (m : Int) := by omega
  have h2 : ¬ (k : Int) < 0 := by omega
  have h3 : ¬ (m : Int) < (k : Int) := by omega
  clear h
  generalize wy m m k = y at *
  go_enter Try.func32, Try.ntmps32
  go_wp2_with fail
  refine (HF.out _).mono ?_
  rintro e w1 ⟨rfl, hb1⟩
  obtain ⟨hc1, hf1⟩ := bcell hb1; have hz1 := hb1.size; (try simp at hz1); have HB1 := Lib.hid hb1; clear hb1
  go_wp2_with fail
  refine (HM.out _).mono ?_
  rintro e w2 ⟨rfl, hb2⟩
  obtain ⟨hc2, hf2⟩ := bcell hb2; have hz2 := hb2.size; (try simp at hz2); have HB2 := Lib.hid hb2; clear hb2
  go_wp2
  go_ret2
  have hb1 := HB1.out
  have hb2 := HB2.out
  exact ⟨rfl, by (repeat' (first | (with_reducible assumption) | (with_reducible exact Below.refl _ _) | (with_reducible refine below_drewN ?_ _) | (with_reducible refine Below.drew ?_) | (with_reducible refine Below.alloc ?_ ?_ _) | (with_reducible refine Below.setCell ?_ ?_ _) | (with_reducible refine Below.trans ?_ (Below.mono (by assumption) ?_)) | (with_reducible exact Nat.le_refl _) | (with_reducible assumption) | omega | (simp; omega) | (simp; done)))⟩
set_option maxRecDepth 100000 in
set_option maxHeartbeats 8000000 in
theorem spec_MapsWithValues_yes (m k : Nat) (w : World) (h : isSz (m : Int) = true) (hm : m ≤ 13) (hk : k ≤ m) :
    Calls Try.prog 31 #[.int .i64 m, .int .i64 k] w fun e w' => e = .returned (.tuple #[.int .i64 (wy m m k), .bool true]) ∧ Below w.heap.size w w' := by
  have hq := isSz_le (m : Int) h
  obtain ⟨i0, hi, iz0, iz1, iz2⟩ := info_parts Try.infoI
  have HS := Lib.hid (fun w => fdSize_any (m : Int) w)
  rw [h] at HS
  have HI := Lib.hid (fun w => l1In_any (k : Int) 0 (m : Int) w)
  rw [show (decide ((0 : Int) ≤ (k : Int)) && decide ((k : Int) ≤ (m : Int))) = true by simp; omega] at HI
  have h1 : ¬ (13 : Int) < (m : Int) := by omega
  have HSM := Lib.hid (fun x j (hx : x ≤ m) (hj : j ≤ m) => wy_small (q := m) (x := x) (j := j) hm hx hj)
  have HPA := Lib.hid (fun x j (hj : j ≤ m) => wst_parts (q := m) (x := x) (j := j) hj)
  have HNF := Lib.hid (fun x n (hn : n ≤ m) j => nxt_form m (wy m x) n hn j)
  have HNL : Hid (∀ x, fl (nxt m (wy m x) (m + 1)) (m + 1) = fl (wy m (x + 1)) (m + 1)) := Lib.hid fun x => fl_congr fun j hj => nxt_last m (wy m x) j hj
  have HNS : Hid (∀ x n, nxt m (wy m x) (n + 1) = if n < m then upd (upd (nxt m (wy m x) n) n (nxt m (wy m x) n n + wy m x n * n)) (n + 1) (upd (nxt m (wy m x) n) n (nxt m (wy m x) n n + wy m x n * n) (n + 1) + wy m x n * ((m : Int) - n)) else upd (nxt m (wy m x) n) n (nxt m (wy m x) n n + wy m x n * n)) := Lib.hid fun _ _ => rfl
  have HN0 : Hid (∀ x, nxt m (wy m x) 0 = fun _ => 0) := Lib.hid fun _ => rfl
  have H0 : Hid (upd (fun _ => 0) 0 1 = wy m 0) := Lib.hid (by funext j; unfold upd; rfl)
  have hwk : IntKind.i64.wrap ((m : Int) + 1) = (m : Int) + 1 := IntWalk.i64_in _ (by omega)
  clear h
  go_enter Try.func31, Try.ntmps31
  go_wp2_with fail
  refine (HS.out _).mono ?_
  rintro e w1 ⟨rfl, hb1⟩
  have HB1 := Lib.hid hb1
  clear hb1
  go_wp2_with fail
  refine (HI.out _).mono ?_
  rintro e _ ⟨rfl, rfl⟩
  go_wp2_with (at_make; refine wpList_make_full _ rfl _ _ 22 rfl w.heap.size 3 i0 (.int .i64 0) 1 Try.underlying22 hi iz0 iz1 .i64 .i64 _ _ (m + 1) rfl rfl rfl rfl ?c3 ?c4 ?c5 ?_)
  case c3 => rw [iz2]; omega
  case c4 => unfold maxLen; omega
  case c5 => exact HB1.out.size
  intro w2 hown hgrow
  have hr : Row w2 w.heap.size (.slice (some ⟨w1.heap.size, 0, none⟩) (m + 1) (m + 1)) (fl (fun _ => 0) (m + 1)) := by
    have := Row.madeF (fun _ => 0) hown
    rw [part0_zz] at this
    exact this
  have hb2 : Below w.heap.size w w2 := HB1.out.grown hgrow HB1.out.size (fun k hk => by cases hk)
  have hc0 := Row.cell (l := fl (fun _ => 0) (m + 1)) (cap := m + 1) (by rw [fl_len]; exact hr) 0 (by rw [fl_len]; omega)
  have hf0 := hr.frozen (by rw [fl_len]) 0
  have hlo := (hr.lt _ rfl).1
  have HR2 := Lib.hid (hr.store (by rw [fl_len]) 0 1)
  have HB2 := Lib.hid (hb2.setCell (p := ⟨w1.heap.size, 0, none⟩) hlo (.int .i64 1))
  clear hown hgrow hr hb2 hlo
  generalize (fl (fun _ => 0) (m + 1)).getD 0 0 = z0 at *
  go_wp2_with fail
  go_loopw [6, 7] (fun vo vi wr => ∃ (x g : Nat), x ≤ m ∧ vi = .int .i64 x ∧ vo = .slice (some ⟨g, 0, none⟩) (m + 1) (m + 1) ∧ Row wr w.heap.size (.slice (some ⟨g, 0, none⟩) (m + 1) (m + 1)) (fl (wy m x) (m + 1)) ∧ Below w.heap.size w wr) (fun _ vi _ => m - (intOf vi).toNat)
  case atStart =>
    refine ⟨0, _, Nat.zero_le _, rfl, rfl, ?_, HB2.out⟩
    have := HR2.out
    rw [fl_set, H0.out] at this
    exact this
  case round =>
    obtain ⟨x, g, hx, rfl, rfl, hr, hbw⟩ := hrel
    have HR := Lib.hid hr
    have HB := Lib.hid hbw
    have hzw := hbw.size
    have hgl := (hr.lt _ rfl).2
    by_cases hlt : x < m
    · clear hr hbw
      go_wp2_with (at_make; refine wpList_make_full _ rfl _ _ 22 rfl w.heap.size 3 i0 (.int .i64 0) 1 Try.underlying22 hi iz0 iz1 .i64 .i64 _ _ (m + 1) rfl rfl rfl rfl ?d3 ?d4 hzw ?_)
      case d3 => first | (rw [iz2]; omega) | omega
      case d4 => unfold maxLen; omega
      intro w3 hown hgrow
      have hr3 : Row w3 w.heap.size (.slice (some ⟨wr.heap.size, 0, none⟩) (m + 1) (m + 1)) (fl (nxt m (wy m x) 0) (m + 1)) := by
        have := Row.madeF (fun _ => 0) hown
        rw [part0_zz] at this
        rw [HN0.out]
        exact this
      have HR3 := Lib.hid hr3
      have hrw := HR.out.keep (w' := w3) fun k hk => hgrow.block k (HR.out.lt k hk).2 (fun e => by cases e)
      have HRW := Lib.hid hrw
      have HB3 : Hid (Below w.heap.size w w3) := Lib.hid (HB.out.grown hgrow hzw (fun k hk => by cases hk))
      clear hown hgrow hr3 hrw
      obtain ⟨G, hG⟩ : ∃ G, wr.heap.size = G := ⟨_, rfl⟩
      rw [hG] at HR3 ⊢
      have hGg : g ≠ G := by omega
      have hGlo : w.heap.size ≤ G := by omega
      go_wp2_with fail
      go_loopw [39] (fun vn ws => ∃ n : Nat, n ≤ m + 1 ∧ vn = .int .i64 n ∧ Row ws w.heap.size (.slice (some ⟨G, 0, none⟩) (m + 1) (m + 1)) (fl (nxt m (wy m x) n) (m + 1)) ∧ Row ws w.heap.size (.slice (some ⟨g, 0, none⟩) (m + 1) (m + 1)) (fl (wy m x) (m + 1)) ∧ Below w.heap.size w ws) (fun vn _ => m + 1 - (intOf vn).toNat)
      case atStart => exact ⟨0, by omega, rfl, HR3.out, HRW.out, HB3.out⟩
      case round =>
        obtain ⟨n, hn, rfl, hrn, hrw, hbs⟩ := hrel
        have HRN := Lib.hid hrn
        have HRS := Lib.hid hrw
        have HBS := Lib.hid hbs
        by_cases hlt2 : n < m + 1
        · have hcw := Row.cell (l := fl (wy m x) (m + 1)) (cap := m + 1) (by rw [fl_len]; exact hrw) n (by rw [fl_len]; exact hlt2)
          rw [fl_get _ _ _ hlt2] at hcw
          have hcn := Row.cell (l := fl (nxt m (wy m x) n) (m + 1)) (cap := m + 1) (by rw [fl_len]; exact hrn) n (by rw [fl_len]; exact hlt2)
          rw [fl_get _ _ _ hlt2] at hcn
          have hfn := hrn.frozen (by rw [fl_len]) n
          have hs0 := HSM.out x n (by omega) (by omega)
          have hs1 := HSM.out (x + 1) n (by omega) (by omega)
          obtain ⟨hp1, hp2, hp3⟩ := HPA.out x n (by omega)
          have hnn := HNF.out x n (by omega) n
          rw [if_neg (by omega)] at hnn
          have hsum : nxt m (wy m x) n n + wy m x n * (n : Int) = wy m (x + 1) n := by
            rw [hnn, hp3]
            by_cases h0 : n = 0
            · subst h0
              rw [if_neg (by omega), if_pos rfl]
              omega
            · rw [if_pos ⟨rfl, by omega⟩, if_neg h0]
              omega
          have hn0 : 0 ≤ nxt m (wy m x) n n := by
            rw [hnn]
            by_cases h0 : n = 0
            · rw [if_neg (by omega)]; omega
            · rw [if_pos ⟨rfl, by omega⟩]; exact hp2 (by omega)
          have HST1 := Lib.hid (hrn.store (by rw [fl_len]) n (nxt m (wy m x) n n + wy m x n * (n : Int)))
          have hns := HNS.out x n
          by_cases hnm : n < m
          · have hcn1 := Row.cell (l := fl (nxt m (wy m x) n) (m + 1)) (cap := m + 1) (by rw [fl_len]; exact hrn) (n + 1) (by rw [fl_len]; omega)
            rw [fl_get _ _ _ (by omega)] at hcn1
            have hfn1 := hrn.frozen (by rw [fl_len]) (n + 1)
            have hz1 := HNF.out x n (by omega) (n + 1)
            rw [if_neg (by omega), if_neg (by omega)] at hz1
            have hs2 := HSM.out (x + 1) (n + 1) (by omega) (by omega)
            obtain ⟨hq1, hq2, hq3⟩ := HPA.out x (n + 1) (by omega)
            have hq2' := hq2 (by omega)
            rw [if_neg (by omega)] at hq3
            rw [Nat.add_sub_cancel, show (m : Int) - ((n + 1 : Nat) : Int) + 1 = (m : Int) - (n : Int) by omega] at hq2' hq3
            rw [if_pos hnm, show upd (nxt m (wy m x) n) n (nxt m (wy m x) n n + wy m x n * (n : Int)) (n + 1) = 0 by rw [upd_ne _ _ _ _ (by omega)]; exact hz1] at hns
            rw [hz1] at hcn1
            have HST2 := Lib.hid (HST1.out.store (by rw [List.length_set, fl_len]) (n + 1) (0 + wy m x n * ((m : Int) - (n : Int))))
            have HNX : Hid (((fl (nxt m (wy m x) n) (m + 1)).set n (nxt m (wy m x) n n + wy m x n * (n : Int))).set (n + 1) (0 + wy m x n * ((m : Int) - (n : Int))) = fl (nxt m (wy m x) (n + 1)) (m + 1)) := Lib.hid (by rw [fl_set, fl_set, hns])
            rw [HNX.out] at HST2
            obtain ⟨u, hu⟩ : ∃ u : Nat, (m : Int) - (n : Int) = (u : Int) := ⟨m - n, by omega⟩
            rw [hu] at hq2' hq3 HST2
            have hub : u ≤ 13 := by omega
            have hnI : (n : Int) < (m : Int) := by omega
            clear hrn hrw hbs hns HNX hz1 hq2 hp2 hnn HST1 hp3
            generalize nxt m (wy m x) n n = e1 at *
            generalize wy m (x + 1) n = s1 at *
            generalize wy m (x + 1) (n + 1) = s2 at *
            generalize wy m x (n + 1) * ((n + 1 : Nat) : Int) = r2 at *
            generalize wy m x n = cv at *
            obtain ⟨pa, hpa⟩ : ∃ p, cv * (n : Int) = p := ⟨_, rfl⟩
            obtain ⟨pb, hpb⟩ : ∃ p, cv * (u : Int) = p := ⟨_, rfl⟩
            rw [hpa] at hp1 hsum HST2
            rw [hpb] at hq2' hq3 HST2
            have v1 : IntKind.i64.wrap pa = pa := IntWalk.i64_in _ (by omega)
            have v2 : IntKind.i64.wrap (e1 + pa) = e1 + pa := IntWalk.i64_in _ (by omega)
            have v3 : IntKind.i64.wrap pb = pb := IntWalk.i64_in _ (by omega)
            have v4 : IntKind.i64.wrap (0 + pb) = 0 + pb := IntWalk.i64_in _ (by omega)
            have v5 : IntKind.i64.wrap (u : Int) = (u : Int) := IntWalk.i64_in _ (by omega)
            have hzp : (0 : Int) + pb = pb := by omega
            rw [hzp, hsum] at HST2
            have HBX : Hid (∀ a b, Below w.heap.size w ((wr.setCell ⟨G, n, none⟩ a).setCell ⟨G, n + 1, none⟩ b)) := Lib.hid fun a b => (HBS.out.setCell (p := ⟨G, n, none⟩) hGlo a).setCell (p := ⟨G, n + 1, none⟩) hGlo b
            have HRX : Hid (∀ a b, Row ((wr.setCell ⟨G, n, none⟩ a).setCell ⟨G, n + 1, none⟩ b) w.heap.size (.slice (some ⟨g, 0, none⟩) (m + 1) (m + 1)) (fl (wy m x) (m + 1))) := Lib.hid fun a b => HRS.out.keep fun k hk => by
              cases hk
              rw [heap_setCell_other _ _ _ _ hGg, heap_setCell_other _ _ _ _ hGg]
            go_wp2
            go_roundw
            case rel => exact ⟨n + 1, by omega, by go_num, by simpa only [hzp] using HST2.out, HRX.out _ _, HBX.out _ _⟩
            case measure => simp [intOf]; omega
          · obtain rfl : n = m := by omega
            rw [if_neg hnm] at hns
            have HNX : Hid ((fl (nxt n (wy n x) n) (n + 1)).set n (nxt n (wy n x) n n + wy n x n * (n : Int)) = fl (nxt n (wy n x) (n + 1)) (n + 1)) := Lib.hid (by rw [fl_set, hns])
            rw [HNX.out] at HST1
            have hnI : ¬ (n : Int) < (n : Int) := by omega
            clear hrn hrw hbs hns HNX hp2 hnn hp3
            generalize nxt n (wy n x) n n = e1 at *
            generalize wy n (x + 1) n = s1 at *
            generalize wy n x n = cv at *
            obtain ⟨pa, hpa⟩ : ∃ p, cv * (n : Int) = p := ⟨_, rfl⟩
            rw [hpa] at hp1 hsum HST1
            rw [hsum] at HST1
            have v1 : IntKind.i64.wrap pa = pa := IntWalk.i64_in _ (by omega)
            have v2 : IntKind.i64.wrap (e1 + pa) = e1 + pa := IntWalk.i64_in _ (by omega)
            have HRX : Hid (∀ a, Row (wr.setCell ⟨G, n, none⟩ a) w.heap.size (.slice (some ⟨g, 0, none⟩) (n + 1) (n + 1)) (fl (wy n x) (n + 1))) := Lib.hid fun a => HRS.out.keep fun k hk => by
              cases hk
              rw [heap_setCell_other _ _ _ _ hGg]
            go_wp2
            go_roundw
            case rel => exact ⟨n + 1, by omega, by go_num, HST1.out, HRX.out _, HBS.out.setCell (p := ⟨G, n, none⟩) hGlo _⟩
            case measure => first | (simp [intOf]; done) | (simp [intOf]; omega)
        · obtain rfl : n = m + 1 := by omega
          have HRF : Hid (Row wr w.heap.size (.slice (some ⟨G, 0, none⟩) (m + 1) (m + 1)) (fl (wy m (x + 1)) (m + 1))) := Lib.hid (by rw [← HNL.out]; exact HRN.out)
          clear hrn hrw hbs
          go_wp2
          go_roundw
          case rel => exact ⟨x + 1, G, by omega, by go_num, rfl, HRF.out, HBS.out⟩
          case measure => simp [intOf]; omega
    · obtain rfl : m = x := by omega
      have hc := Row.cell (l := fl (wy m m) (m + 1)) (cap := m + 1) (by rw [fl_len]; exact hr) k (by rw [fl_len]; omega)
      rw [fl_get _ _ _ (by omega)] at hc
      have hkm : (k : Int) < ((m + 1 : Nat) : Int) := by omega
      clear hr hbw
      go_wp2
      go_ret2
      exact ⟨rfl, HB.out⟩
theorem mw_nat {q k : Int} (h : mwOK q k = true) : ∃ m K : Nat, q = m ∧ k = K ∧ isSz (m : Int) = true ∧ m ≤ 13 ∧ K ≤ m := by
  simp only [mwOK, Bool.and_eq_true, decide_eq_true_iff] at h
  obtain ⟨hs, h1, h2, h3⟩ := h
  have hq := isSz_le q hs
  obtain ⟨m, rfl⟩ := Int.eq_ofNat_of_zero_le (show 0 ≤ q by omega)
  obtain ⟨K, rfl⟩ := Int.eq_ofNat_of_zero_le h2
  exact ⟨m, K, rfl, rfl, hs, by omega, by omega⟩
theorem key_MapsWithValues (q : Int) (k : Int) : ∃ (r : Int) (o : Bool), (∀ (w : World), Calls Try.prog 31 #[.int .i64 q, .int .i64 k] w fun e w' => e = .returned (.tuple #[.int .i64 r, .bool o]) ∧ Below w.heap.size w w') ∧
      (∀ (w : World), Calls Try.prog 32 #[.int .i64 q, .int .i64 k] w fun e w' => e = .returned (.tuple #[.int .i64 r, .bool o]) ∧ Below w.heap.size w w') := by
  cases h : mwOK q k with
  | false => exact ⟨0, false, fun w => spec_MapsWithValues_no q k w h, fun w => impl_MapsWithValues_no q k w h⟩
  | true =>
    obtain ⟨m, K, rfl, rfl, hs, h1, h2⟩ := mw_nat h
    exact ⟨_, true, fun w => spec_MapsWithValues_yes m K w hs h1 h2, fun w => impl_MapsWithValues_yes m K w hs h1 h2⟩
set_option maxRecDepth 100000 in
set_option maxHeartbeats 4000000 in
/-- laws.FnExactMapsWithValues. -/
theorem walk_FnExactMapsWithValues (q : Int) (k : Int) (w : World) (_h_q : (Lit.int .i64 q).wf = true) (_h_k : (Lit.int .i64 k).wf = true) :
    Calls Try.prog 10 #[.int .i64 q, .int .i64 k] w fun e w' => e = .returned (.bool true) ∧ Below w.heap.size w w' := by
  clear _h_q
  clear _h_k
  obtain ⟨r, o, k1, k2⟩ := key_MapsWithValues q k
  have K1 := Lib.hid k1; clear k1
  have K2 := Lib.hid k2; clear k2
  have HB0 : Hid (Below w.heap.size w w) := Lib.hid (Below.refl _ _)
  go_enter Try.func10, Try.ntmps10
  go_wp2_with fail
  refine (K1.out _ ).mono ?_
  rintro e w1 ⟨rfl, hbw1⟩
  have hzw1 : w.heap.size ≤ w1.heap.size := hbw1.size
  have HBw1 : Hid (Below w.heap.size w w1) := Lib.hid (HB0.out.trans (hbw1.mono HB0.out.size))
  have hww1 := HBw1.out.size
  clear hbw1 HB0
  go_wp2_with fail
  refine (K2.out _ ).mono ?_
  rintro e w2 ⟨rfl, hbw2⟩
  have hzw2 : w1.heap.size ≤ w2.heap.size := hbw2.size
  have HBw2 : Hid (Below w.heap.size w w2) := Lib.hid (HBw1.out.trans (hbw2.mono HBw1.out.size))
  have hww2 := HBw2.out.size
  clear hbw2 HBw1
  go_wp2
  go_ret
  exact ⟨rfl, HBw2.out⟩
end Go.Proofs.Ytnmdcmbcackchab
