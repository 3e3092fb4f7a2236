/- Sums of characters of the values of a polynomial; CharacterSum and CountPoints, of both, by contracts; the walks of their laws. -/
import Derived.Test.YtimpgbifnijkkabTB
import Derived.Test.YtimpgbifnijkkabTE
import Derived.Test.YtimpgbifnijkkabKL
import Derived.Deep.RegionHeld3
namespace Go.Proofs.Ytimpgbifnijkkab
open Go.RowKit
/-- An odd size and a polynomial. -/
def ota (q : Int) (l : List Int) : Bool := odq q && good q l
theorem ota_nat {q : Int} {l : List Int} (h : ota q l = true) : ∃ m : Nat, q = (m : Int) ∧ isSz (m : Int) = true ∧ (m : Int) % 2 = 1 ∧ good (m : Int) l = true := by
  simp only [ota, Bool.and_eq_true] at h
  obtain ⟨ho, hg⟩ := h
  obtain ⟨m, rfl, hs, hm⟩ := odq_nat ho
  exact ⟨m, rfl, hs, hm, hg⟩
/-- The values. -/
def tbo (m : Nat) (l : List Int) : Nat → Int := tabF (m : Int) (fun i => l.getD i 0) l.length
theorem tbo_el {m : Nat} {l : List Int} (h : isSz (m : Int) = true) (hg : good (m : Int) l = true) (i : Nat) (hi : i < m) : El (m : Int) (tbo m l i) :=
  hor_el h ⟨by omega, by omega⟩ (good_el hg) _ (Nat.le_refl _)
/-- The sum of the characters of values. -/
def chs (m : Nat) (t : Nat → Int) : Int := csm (fun x => chi m (t x)) m
theorem chs_bd (m : Nat) (t : Nat → Int) : -(m : Int) ≤ chs m t ∧ chs m t ≤ (m : Int) := csm_bd (fun _ => chi_bd _ _) m
/-- spec.ctAsked. -/
theorem ctAsked_any (q : Int) (v : Value) (l : List Int) (w : World) (hv : Sl w v l) (hl : l.length ≤ 1048576) :
    Calls Try.prog 71 #[.int .i64 q, v] w fun e w' => e = .returned (.bool (ota q l)) ∧ Below w.heap.size w w' := by
  have HO := Lib.hid (fun w => ctOdd_any q w)
  have HG := Lib.hid (fun w' (hb : Below w.heap.size w w') => plGood_any q v l w' (hv.below hb (Nat.le_refl _)) hl)
  clear hv hl
  cases ho : odq q with
  | false =>
    have e0 : ota q l = false := by unfold ota; rw [ho, Bool.false_and]
    rw [ho] at HO
    rw [e0]
    clear ho e0
    go_enter Try.func71, Try.ntmps71
    go_wp2_with fail
    refine (HO.out _).mono ?_
    rintro e w1 ⟨rfl, hb1⟩
    go_wp2
    go_ret
    exact ⟨rfl, hb1⟩
  | true =>
    have e0 : ota q l = (isSz q && good q l) := by
      have h2 := ho
      simp only [odq, Bool.and_eq_true] at h2
      simp [ota, ho, h2.1]
    rw [ho] at HO
    rw [e0]
    clear ho e0
    generalize (isSz q && good q l) = r at *
    go_enter Try.func71, Try.ntmps71
    go_wp2_with fail
    refine (HO.out _).mono ?_
    rintro e w1 ⟨rfl, hb1⟩
    have hz_hb1 := hb1.size; (try simp at hz_hb1)
    go_wp2_with fail
    refine (HG.out _ (by (repeat' (first | (with_reducible assumption) | (with_reducible exact Below.refl _ _) | (with_reducible refine below_drewN ?_ _) | (with_reducible refine Below.drew ?_) | (with_reducible refine Below.alloc ?_ ?_ _) | (with_reducible refine Below.setCell ?_ ?_ _) | (with_reducible refine Below.trans ?_ (Below.mono (by assumption) ?_)) | (with_reducible exact Nat.le_refl _) | (with_reducible assumption) | omega | (simp; omega) | (simp; done))))).mono ?_
    rintro e w2 ⟨rfl, hb2⟩
    go_wp2
    go_ret
    exact ⟨rfl, by (repeat' (first | (with_reducible assumption) | (with_reducible exact Below.refl _ _) | (with_reducible refine below_drewN ?_ _) | (with_reducible refine Below.drew ?_) | (with_reducible refine Below.alloc ?_ ?_ _) | (with_reducible refine Below.setCell ?_ ?_ _) | (with_reducible refine Below.trans ?_ (Below.mono (by assumption) ?_)) | (with_reducible exact Nat.le_refl _) | (with_reducible assumption) | omega | (simp; omega) | (simp; done)))⟩
set_option maxRecDepth 100000 in
set_option maxHeartbeats 4000000 in
/-- spec.ctSum. -/
theorem ctSum_any (m : Nat) (v : Value) (l : List Int) (w : World) (h : isSz (m : Int) = true) (ho : (m : Int) % 2 = 1) (hv : Sl w v l) (hg : good (m : Int) l = true) :
    Calls Try.prog 72 #[.int .i64 m, v] w fun e w' => e = .returned (.int .i64 (chs m (tbo m l))) ∧ Below w.heap.size w w' := by
  have hq := isSz_le (m : Int) h
  have HV := Lib.hid (plValues_any (m : Int) v l w h hv hg)
  rw [Int.toNat_natCast] at HV
  have HT := Lib.hid (fun i hi => tbo_el h hg i hi)
  change Hid (Calls _ _ _ _ fun e w' => ∃ v', e = .returned v' ∧ Row w' w.heap.size v' (fl (tbo m l) m) ∧ Below w.heap.size w w') at HV
  generalize tbo m l = t at *
  have HC := Lib.hid (fun (i : Nat) w (hi : i < m) => ctOf_any m (t i) w h ho (HT.out i hi).1 (HT.out i hi).2)
  have HSB := Lib.hid (csm_bd (fun i : Nat => chi_bd m (t i)))
  have HCB := Lib.hid (fun i : Nat => chi_bd m (t i))
  have HSU : Hid (∀ n, csm (fun x => chi m (t x)) (n + 1) = csm (fun x => chi m (t x)) n + chi m (t n)) := Lib.hid fun _ => rfl
  have HS0 : Hid (csm (fun x => chi m (t x)) 0 = 0) := Lib.hid rfl
  unfold chs
  clear h hv hg HT
  generalize csm (fun x => chi m (t x)) = S at *
  go_enter Try.func72, Try.ntmps72
  go_wp2_with fail
  refine HV.out.mono ?_
  rintro e w1 ⟨v1, rfl, hr1, hb1⟩
  obtain ⟨g, cp, rfl, hg1, hg2⟩ := hr1.form (by rw [fl_len]; omega)
  have HR := Lib.hid (fun (i : Nat) (hi : i < m) => by
    have := hr1.cell i (by rw [fl_len]; exact hi)
    rw [fl_get _ _ _ hi] at this
    exact this)
  rw [fl_len]
  have HB := Lib.hid hb1
  clear hr1 hb1
  go_wp2_with fail
  go_loopw [5, 12] (fun vs vi wr => ∃ i : Nat, i ≤ m ∧ vi = .int .i64 i ∧ vs = .int .i64 (S i) ∧ Below w1.heap.size w1 wr) (fun _ vi _ => m - (intOf vi).toNat)
  case atStart => exact ⟨0, Nat.zero_le _, rfl, by rw [HS0.out], Below.refl _ _⟩
  case round =>
    obtain ⟨i, him, rfl, rfl, hb⟩ := hrel
    have hzb := hb.size
    by_cases hlt : i < m
    · have hc := (hb.cell (p := ⟨g, i, none⟩) hg2).trans (HR.out i hlt)
      have HC' := Lib.hid (fun w => HC.out i w hlt)
      have b1 := HSB.out i
      have b2 := HCB.out i
      have HSS := Lib.hid (HSU.out i)
      have HBB := Lib.hid hb
      clear hb
      generalize t i = x at *
      generalize chi (m : Int) x = y at *
      generalize S i = s at *
      have hwr : IntKind.i64.wrap (s + y) = s + y := IntWalk.i64_in _ (by omega)
      go_wp2_with fail
      refine (HC'.out _).mono ?_
      rintro e w5 ⟨rfl, hb5⟩
      have HB5 : Hid (Below w1.heap.size w1 w5) := Lib.hid (HBB.out.trans (hb5.mono hzb))
      clear hb5 HBB
      go_wp2
      go_roundw
      case rel => exact ⟨i + 1, by omega, by go_num, by rw [HSS.out], HB5.out⟩
      case measure => simp [intOf]; omega
    · obtain rfl : m = i := by omega
      have HBB := Lib.hid (HB.out.trans (hb.mono HB.out.size))
      clear hb
      go_wp2
      go_ret
      exact ⟨rfl, HBB.out⟩
set_option maxRecDepth 100000 in
set_option maxHeartbeats 4000000 in
/-- impl.poly.characterSum. -/
theorem characterSumE (m g n cap : Nat) (f : Nat → Int) (w : World) (h : isSz (m : Int) = true) (hg : g < w.heap.size) (he : Els w g (m : Int) f n) (hf : ∀ i, i < n → El (m : Int) (f i)) (hn : n ≤ 1000) :
    Calls Try.prog 76 #[polyE (m : Int) (.slice (some ⟨g, 0, none⟩) n cap)] w fun e w' => e = .returned (.int .i64 (chs m (tabF (m : Int) f n))) ∧ Below w.heap.size w w' := by
  have hq := isSz_le (m : Int) h
  have HC := Lib.hid (fun w => charactersE m w h)
  have HTE : ∀ i : Nat, i < m → El (m : Int) (tabF (m : Int) f n i) := fun i hi => hor_el h ⟨by omega, by omega⟩ hf _ (Nat.le_refl _)
  have HS : Hid (∀ w', Below w.heap.size w w' → Calls Try.prog 122 #[fdE (m : Int), .iface 127 (.agg #[.int .i64 (m : Int), .int .i64 (pr m), .int .i64 (pl m), .slice (some ⟨g, 0, none⟩) n cap, .func (.func 59) #[.agg (CH (chN m m))] #[]])] w' fun e w'' => e = .returned (.int .i64 (chs m (tabF (m : Int) f n))) ∧ Below w'.heap.size w' w'') := Lib.hid fun w' hb =>
    sumOver_V m _ (fun x => chi m (tabF (m : Int) f n x)) w' h (fun _ => chi_bd _ _) fun i hi w2 hb2 => amountV m g n cap (i : Int) (tabF (m : Int) f n i) _ _ w2
      (fun w3 hb3 => atE (m : Int) (i : Int) g cap n f w3 h ⟨by omega, by omega⟩ (by have h1 := hb.size; have h2 := hb2.size; have h3 := hb3.size; omega) (((he.below hb hg).below hb2 (by have h1 := hb.size; omega)).below hb3 (by have h1 := hb.size; have h2 := hb2.size; omega)) hf hn)
      (fun w3 => ofE m _ w3 h (HTE i hi))
  clear h he hf HTE
  generalize chs m (tabF (m : Int) f n) = r at *
  generalize CH (chN m m) = A at *
  go_enter Try.func76, Try.ntmps76
  go_wp2_with fail
  have HKEEP : Hid (∀ w', Below (w.heap.size + 1) (w.alloc (pblk (m : Int) (.slice (some ⟨g, 0, none⟩) n cap))) w' → w'.cell? ⟨w.heap.size, 0, none⟩ = some (.int .i64 m) ∧ w'.cell? ⟨w.heap.size, 1, none⟩ = some (.int .i64 (pr m)) ∧ w'.cell? ⟨w.heap.size, 2, none⟩ = some (.int .i64 (pl m)) ∧ w'.cell? ⟨w.heap.size, 3, none⟩ = some (.slice (some ⟨g, 0, none⟩) n cap)) := Lib.hid fun w' hb => by
    obtain ⟨x0, x1, x2, x3, _⟩ := cells4 ((hb.block _ (by omega)).trans (heap_alloc_new w _))
    exact ⟨x0, x1, x2, x3⟩
  go_region_held3 (fun w' => w'.cell? ⟨w.heap.size, 0, none⟩ = some (.int .i64 m) ∧ w'.cell? ⟨w.heap.size, 1, none⟩ = some (.int .i64 (pr m)) ∧ w'.cell? ⟨w.heap.size, 2, none⟩ = some (.int .i64 (pl m)) ∧ w'.cell? ⟨w.heap.size, 3, none⟩ = some (.slice (some ⟨g, 0, none⟩) n cap))
    (exact HKEEP.out _ (by (try have hb3 := HB3.out); (try have hb4 := HB4.out); (repeat' (first | (with_reducible assumption) | (with_reducible exact Below.refl _ _) | (with_reducible refine below_drewN ?_ _) | (with_reducible refine Below.drew ?_) | (with_reducible refine Below.alloc ?_ ?_ _) | (with_reducible refine Below.setCell ?_ ?_ _) | (with_reducible refine Below.trans ?_ (Below.mono (by assumption) ?_)) | (with_reducible exact Nat.le_refl _) | (with_reducible assumption) | omega | (simp; omega) | (simp; done)))))
    (first
    | (go_at_call 58; refine (HC.out _).mono ?_; rintro e w3 ⟨rfl, hb3⟩; obtain ⟨hc3, hf3⟩ := bcell hb3; (try simp only [World.size_drew] at hc3 hf3); have hz3 := hb3.size; (try simp at hz3); have HB3 := Lib.hid hb3; clear hb3)
    | (go_at_call 122; refine (HS.out _ (by have hb3 := HB3.out; (repeat' (first | (with_reducible assumption) | (with_reducible exact Below.refl _ _) | (with_reducible refine below_drewN ?_ _) | (with_reducible refine Below.drew ?_) | (with_reducible refine Below.alloc ?_ ?_ _) | (with_reducible refine Below.setCell ?_ ?_ _) | (with_reducible refine Below.trans ?_ (Below.mono (by assumption) ?_)) | (with_reducible exact Nat.le_refl _) | (with_reducible assumption) | omega | (simp; omega) | (simp; done))))).mono ?_; rintro e w4 ⟨rfl, hb4⟩; obtain ⟨hc4, hf4⟩ := bcell hb4; (try simp only [World.size_drew] at hc4 hf4); have hz4 := hb4.size; (try simp at hz4); have HB4 := Lib.hid hb4; clear hb4))
  all_goals
    go_wp2
    go_ret
    have hb3 := HB3.out
    have hb4 := HB4.out
    exact ⟨rfl, by (repeat' (first | (with_reducible assumption) | (with_reducible exact Below.refl _ _) | (with_reducible refine below_drewN ?_ _) | (with_reducible refine Below.drew ?_) | (with_reducible refine Below.alloc ?_ ?_ _) | (with_reducible refine Below.setCell ?_ ?_ _) | (with_reducible refine Below.trans ?_ (Below.mono (by assumption) ?_)) | (with_reducible exact Nat.le_refl _) | (with_reducible assumption) | omega | (simp; omega) | (simp; done)))⟩
set_option maxRecDepth 100000 in
set_option maxHeartbeats 4000000 in
/-- impl.poly.countPoints. -/
theorem countPointsE (m g n cap : Nat) (f : Nat → Int) (w : World) (h : isSz (m : Int) = true) (hg : g < w.heap.size) (he : Els w g (m : Int) f n) (hf : ∀ i, i < n → El (m : Int) (f i)) (hn : n ≤ 1000) :
    Calls Try.prog 70 #[polyE (m : Int) (.slice (some ⟨g, 0, none⟩) n cap)] w fun e w' => e = .returned (.int .i64 ((m : Int) + chs m (tabF (m : Int) f n))) ∧ Below w.heap.size w w' := by
  have hq := isSz_le (m : Int) h
  have hbd := chs_bd m (tabF (m : Int) f n)
  have HS := Lib.hid (fun w' (hb : Below w.heap.size w w') => characterSumE m g n cap f w' h (by have h1 := hb.size; omega) (he.below hb hg) hf hn)
  clear h he hf
  generalize chs m (tabF (m : Int) f n) = r at *
  have hwr : IntKind.i64.wrap ((m : Int) + r) = (m : Int) + r := IntWalk.i64_in _ (by omega)
  go_enter Try.func70, Try.ntmps70
  go_wp2_with fail
  go_region_with (go_at_call 76; refine (HS.out _ (by (repeat' (first | (with_reducible assumption) | (with_reducible exact Below.refl _ _) | (with_reducible refine below_drewN ?_ _) | (with_reducible refine Below.drew ?_) | (with_reducible refine Below.alloc ?_ ?_ _) | (with_reducible refine Below.setCell ?_ ?_ _) | (with_reducible refine Below.trans ?_ (Below.mono (by assumption) ?_)) | (with_reducible exact Nat.le_refl _) | (with_reducible assumption) | omega | (simp; omega) | (simp; done))))).mono ?_; rintro e w3 ⟨rfl, hb3⟩; obtain ⟨hc3, hf3⟩ := bcell hb3; (try simp only [World.size_drew] at hc3 hf3); have hz3 := hb3.size; (try simp at hz3); have HB3 := Lib.hid hb3; clear hb3; have l3 : w.heap.size < w3.heap.size := (by omega))
  all_goals
    go_wp2
    go_ret
    have hb3 := HB3.out
    exact ⟨rfl, by (repeat' (first | (with_reducible assumption) | (with_reducible exact Below.refl _ _) | (with_reducible refine below_drewN ?_ _) | (with_reducible refine Below.drew ?_) | (with_reducible refine Below.alloc ?_ ?_ _) | (with_reducible refine Below.setCell ?_ ?_ _) | (with_reducible refine Below.trans ?_ (Below.mono (by assumption) ?_)) | (with_reducible exact Nat.le_refl _) | (with_reducible assumption) | omega | (simp; omega) | (simp; done)))⟩
/-- impl.validOddPoly. -/
theorem validOddPoly_yes (m : Nat) (v : Value) (l : List Int) (w : World) (h : isSz (m : Int) = true) (ho : (m : Int) % 2 = 1) (hv : Sl w v l) (hg : good (m : Int) l = true) :
    Calls Try.prog 69 #[.int .i64 m, v] w fun e w' => ∃ g, e = .returned (.tuple #[polyE (m : Int) (.slice (some ⟨g, 0, none⟩) l.length l.length), .bool true]) ∧ g < w'.heap.size ∧ Els w' g (m : Int) (fun i => l.getD i 0) l.length ∧ Below w.heap.size w w' := by
  have HP := Lib.hid (fun w' (hb : Below w.heap.size w w') => validPoly_yes (m : Int) v l w' h (hv.below hb (Nat.le_refl _)) hg)
  have hne : ((m : Int) % 2 == 0) = false := by rw [ho]; rfl
  clear h hv hg
  generalize (fun i => l.getD i 0) = f at *
  generalize l.length = n at *
  go_enter Try.func69, Try.ntmps69
  go_wp2_with fail
  refine (HP.out _ (by (repeat' (first | (with_reducible assumption) | (with_reducible exact Below.refl _ _) | (with_reducible refine below_drewN ?_ _) | (with_reducible refine Below.drew ?_) | (with_reducible refine Below.alloc ?_ ?_ _) | (with_reducible refine Below.setCell ?_ ?_ _) | (with_reducible refine Below.trans ?_ (Below.mono (by assumption) ?_)) | (with_reducible exact Nat.le_refl _) | (with_reducible assumption) | omega | (simp; omega) | (simp; done))))).mono ?_
  rintro e w1 ⟨g, rfl, hgg, hk1, he1, hb1⟩
  simp at hgg
  have hgl := hk1.lt
  have HE1 := Lib.hid he1; clear hk1 he1
  obtain ⟨hc1, hf1⟩ := bcell hb1; have hz1 := hb1.size; (try simp at hz1); have HB1 := Lib.hid hb1; clear hb1
  have l1 : w.heap.size < w1.heap.size := by omega
  go_wp2_with fail
  have hb1 := HB1.out
  have hbw : Below (w.heap.size + 1) (w.alloc pzblk) w1 := by (repeat' (first | (with_reducible assumption) | (with_reducible exact Below.refl _ _) | (with_reducible refine below_drewN ?_ _) | (with_reducible refine Below.drew ?_) | (with_reducible refine Below.alloc ?_ ?_ _) | (with_reducible refine Below.setCell ?_ ?_ _) | (with_reducible refine Below.trans ?_ (Below.mono (by assumption) ?_)) | (with_reducible exact Nat.le_refl _) | (with_reducible assumption) | omega | (simp; omega) | (simp; done)))
  have q0 : w1.heap[w.heap.size]? = some pzblk := (hbw.block _ (by omega)).trans (heap_alloc_new w _)
  obtain ⟨s0, s1, s2, s3, sf, sl⟩ := cells4 q0
  clear q0
  refine bodyPost_ret (v := .tuple #[polyE (m : Int) (.slice (some ⟨g, 0, none⟩) n n), .bool true]) (by simp [results, Try.results69, go_sem, s0, s1, s2, s3, l1]) rfl ⟨g, rfl, ?_, ?_, ?_⟩
  · simp; omega
  · refine Els.same HE1.out ?_
    (repeat' (first | (with_reducible rfl) | omega | (with_reducible refine (heap_setCell_other _ _ _ _ ?_).trans ?_) | (with_reducible refine (Below.heap_alloc _ _ _ ?_).trans ?_) | (with_reducible refine (drew_heap _ _).trans ?_) | (simp; omega)))
  · (repeat' (first | (with_reducible assumption) | (with_reducible exact Below.refl _ _) | (with_reducible refine below_drewN ?_ _) | (with_reducible refine Below.drew ?_) | (with_reducible refine Below.alloc ?_ ?_ _) | (with_reducible refine Below.setCell ?_ ?_ _) | (with_reducible refine Below.trans ?_ (Below.mono (by assumption) ?_)) | (with_reducible exact Nat.le_refl _) | (with_reducible assumption) | omega | (simp; omega) | (simp; done)))
theorem validOddPoly_no1 (q : Int) (v : Value) (l : List Int) (w : World) (hv : Sl w v l) (hl : l.length ≤ 1048576) (hg : (isSz q && good q l) = false) :
    Calls Try.prog 69 #[.int .i64 q, v] w fun e w' => e = .returned (.tuple #[polyZ, .bool false]) ∧ Below w.heap.size w w' := by
  have HP := Lib.hid (fun w' (hb : Below w.heap.size w w') => validPoly_no q v l w' (hv.below hb (Nat.le_refl _)) hl hg)
  clear hv hl hg
  go_enter Try.func69, Try.ntmps69
  go_wp2_with fail
  refine (HP.out _ (by (repeat' (first | (with_reducible assumption) | (with_reducible exact Below.refl _ _) | (with_reducible refine below_drewN ?_ _) | (with_reducible refine Below.drew ?_) | (with_reducible refine Below.alloc ?_ ?_ _) | (with_reducible refine Below.setCell ?_ ?_ _) | (with_reducible refine Below.trans ?_ (Below.mono (by assumption) ?_)) | (with_reducible exact Nat.le_refl _) | (with_reducible assumption) | omega | (simp; omega) | (simp; done))))).mono ?_
  rintro e w1 ⟨rfl, hb1⟩
  obtain ⟨hc1, hf1⟩ := bcell hb1; have hz1 := hb1.size; (try simp at hz1); have HB1 := Lib.hid hb1; clear hb1
  have l1 : w.heap.size < w1.heap.size := by omega
  go_wp2_with fail
  have hb1 := HB1.out
  have hbw : Below (w.heap.size + 1) (w.alloc pzblk) w1 := by (repeat' (first | (with_reducible assumption) | (with_reducible exact Below.refl _ _) | (with_reducible refine below_drewN ?_ _) | (with_reducible refine Below.drew ?_) | (with_reducible refine Below.alloc ?_ ?_ _) | (with_reducible refine Below.setCell ?_ ?_ _) | (with_reducible refine Below.trans ?_ (Below.mono (by assumption) ?_)) | (with_reducible exact Nat.le_refl _) | (with_reducible assumption) | omega | (simp; omega) | (simp; done)))
  have q0 : w1.heap[w.heap.size]? = some pzblk := (hbw.block _ (by omega)).trans (heap_alloc_new w _)
  obtain ⟨s0, s1, s2, s3, sf, sl⟩ := cells4 q0
  clear q0
  refine bodyPost_ret (v := .tuple #[polyZ, .bool false]) (by simp [results, Try.results69, go_sem, s0, s1, s2, s3, l1]) rfl ⟨rfl, ?_⟩
  (repeat' (first | (with_reducible assumption) | (with_reducible exact Below.refl _ _) | (with_reducible refine below_drewN ?_ _) | (with_reducible refine Below.drew ?_) | (with_reducible refine Below.alloc ?_ ?_ _) | (with_reducible refine Below.setCell ?_ ?_ _) | (with_reducible refine Below.trans ?_ (Below.mono (by assumption) ?_)) | (with_reducible exact Nat.le_refl _) | (with_reducible assumption) | omega | (simp; omega) | (simp; done)))
theorem validOddPoly_no2 (m : Nat) (v : Value) (l : List Int) (w : World) (h : isSz (m : Int) = true) (ho : (m : Int) % 2 = 0) (hv : Sl w v l) (hg : good (m : Int) l = true) :
    Calls Try.prog 69 #[.int .i64 m, v] w fun e w' => e = .returned (.tuple #[polyZ, .bool false]) ∧ Below w.heap.size w w' := by
  have HP := Lib.hid (fun w' (hb : Below w.heap.size w w') => validPoly_yes (m : Int) v l w' h (hv.below hb (Nat.le_refl _)) hg)
  clear h hv hg
  go_enter Try.func69, Try.ntmps69
  go_wp2_with fail
  refine (HP.out _ (by (repeat' (first | (with_reducible assumption) | (with_reducible exact Below.refl _ _) | (with_reducible refine below_drewN ?_ _) | (with_reducible refine Below.drew ?_) | (with_reducible refine Below.alloc ?_ ?_ _) | (with_reducible refine Below.setCell ?_ ?_ _) | (with_reducible refine Below.trans ?_ (Below.mono (by assumption) ?_)) | (with_reducible exact Nat.le_refl _) | (with_reducible assumption) | omega | (simp; omega) | (simp; done))))).mono ?_
  rintro e w1 ⟨g, rfl, hgg, hk1, he1, hb1⟩
  clear hgg hk1 he1
  obtain ⟨hc1, hf1⟩ := bcell hb1; have hz1 := hb1.size; (try simp at hz1); have HB1 := Lib.hid hb1; clear hb1
  have l1 : w.heap.size < w1.heap.size := by omega
  go_wp2_with fail
  have hb1 := HB1.out
  have hbw : Below (w.heap.size + 1) (w.alloc pzblk) w1 := by (repeat' (first | (with_reducible assumption) | (with_reducible exact Below.refl _ _) | (with_reducible refine below_drewN ?_ _) | (with_reducible refine Below.drew ?_) | (with_reducible refine Below.alloc ?_ ?_ _) | (with_reducible refine Below.setCell ?_ ?_ _) | (with_reducible refine Below.trans ?_ (Below.mono (by assumption) ?_)) | (with_reducible exact Nat.le_refl _) | (with_reducible assumption) | omega | (simp; omega) | (simp; done)))
  have q0 : w1.heap[w.heap.size]? = some pzblk := (hbw.block _ (by omega)).trans (heap_alloc_new w _)
  obtain ⟨s0, s1, s2, s3, sf, sl⟩ := cells4 q0
  clear q0
  refine bodyPost_ret (v := .tuple #[polyZ, .bool false]) (by simp [results, Try.results69, go_sem, s0, s1, s2, s3, l1]) rfl ⟨rfl, ?_⟩
  (repeat' (first | (with_reducible assumption) | (with_reducible exact Below.refl _ _) | (with_reducible refine below_drewN ?_ _) | (with_reducible refine Below.drew ?_) | (with_reducible refine Below.alloc ?_ ?_ _) | (with_reducible refine Below.setCell ?_ ?_ _) | (with_reducible refine Below.trans ?_ (Below.mono (by assumption) ?_)) | (with_reducible exact Nat.le_refl _) | (with_reducible assumption) | omega | (simp; omega) | (simp; done)))
theorem validOddPoly_no (q : Int) (v : Value) (l : List Int) (w : World) (hv : Sl w v l) (hl : l.length ≤ 1048576) (hn : ota q l = false) :
    Calls Try.prog 69 #[.int .i64 q, v] w fun e w' => e = .returned (.tuple #[polyZ, .bool false]) ∧ Below w.heap.size w w' := by
  cases hg : isSz q && good q l with
  | false => exact validOddPoly_no1 q v l w hv hl hg
  | true =>
    have h2 := hg
    simp only [Bool.and_eq_true] at h2
    have hq := isSz_le q h2.1
    obtain ⟨m, rfl⟩ := Int.eq_ofNat_of_zero_le (show 0 ≤ q by omega)
    unfold ota odq at hn
    rw [h2.1, h2.2, Bool.true_and, Bool.and_true, decide_eq_false_iff_not] at hn
    exact validOddPoly_no2 m v l w h2.1 (by omega) hv h2.2
theorem spec_CharacterSum_no (q : Int) (v : Value) (l : List Int) (w : World) (hv : Sl w v l) (hl : l.length ≤ 1048576) (hn : ota q l = false) :
    Calls Try.prog 38 #[.int .i64 q, v] w fun e w' => e = .returned (.tuple #[.int .i64 0, .bool false]) ∧ Below w.heap.size w w' := by
  have hp := ctAsked_any q v l w hv hl
  rw [hn] at hp
  have HP := Lib.hid hp
  clear hp hv hn hl
  go_enter Try.func38, Try.ntmps38
  go_wp2_with fail
  refine HP.out.mono ?_
  rintro e w1 ⟨rfl, hb1⟩
  have HB1 : Hid (Below w.heap.size w w1) := Lib.hid (by first | exact hb1 | (repeat' (first | (with_reducible assumption) | (with_reducible exact Below.refl _ _) | (with_reducible refine below_drewN ?_ _) | (with_reducible refine Below.drew ?_) | (with_reducible refine Below.alloc ?_ ?_ _) | (with_reducible refine Below.setCell ?_ ?_ _) | (with_reducible refine Below.trans ?_ (Below.mono (by assumption) ?_)) | (with_reducible exact Nat.le_refl _) | (with_reducible assumption) | omega | (simp; omega) | (simp; done))))
  clear hb1
  go_wp2_with fail
  go_ret2
  have hb1 := HB1.out
  have hz1 := hb1.size
  exact ⟨rfl, by (repeat' (first | (with_reducible assumption) | (with_reducible exact Below.refl _ _) | (with_reducible refine below_drewN ?_ _) | (with_reducible refine Below.drew ?_) | (with_reducible refine Below.alloc ?_ ?_ _) | (with_reducible refine Below.setCell ?_ ?_ _) | (with_reducible refine Below.trans ?_ (Below.mono (by assumption) ?_)) | (with_reducible exact Nat.le_refl _) | (with_reducible assumption) | omega | (simp; omega) | (simp; done)))⟩
theorem impl_CharacterSum_no (q : Int) (v : Value) (l : List Int) (w : World) (hv : Sl w v l) (hl : l.length ≤ 1048576) (hn : ota q l = false) :
    Calls Try.prog 37 #[.int .i64 q, v] w fun e w' => e = .returned (.tuple #[.int .i64 0, .bool false]) ∧ Below w.heap.size w w' := by
  have HP := Lib.hid (validOddPoly_no q v l w hv hl hn)
  clear hv hl hn
  go_enter Try.func37, Try.ntmps37
  go_wp2_with fail
  refine HP.out.mono ?_
  rintro e w1 ⟨rfl, hb1⟩
  have HB1 : Hid (Below w.heap.size w w1) := Lib.hid (by first | exact hb1 | (repeat' (first | (with_reducible assumption) | (with_reducible exact Below.refl _ _) | (with_reducible refine below_drewN ?_ _) | (with_reducible refine Below.drew ?_) | (with_reducible refine Below.alloc ?_ ?_ _) | (with_reducible refine Below.setCell ?_ ?_ _) | (with_reducible refine Below.trans ?_ (Below.mono (by assumption) ?_)) | (with_reducible exact Nat.le_refl _) | (with_reducible assumption) | omega | (simp; omega) | (simp; done))))
  clear hb1
  go_wp2_with fail
  go_ret2
  have hb1 := HB1.out
  have hz1 := hb1.size
  exact ⟨rfl, by (repeat' (first | (with_reducible assumption) | (with_reducible exact Below.refl _ _) | (with_reducible refine below_drewN ?_ _) | (with_reducible refine Below.drew ?_) | (with_reducible refine Below.alloc ?_ ?_ _) | (with_reducible refine Below.setCell ?_ ?_ _) | (with_reducible refine Below.trans ?_ (Below.mono (by assumption) ?_)) | (with_reducible exact Nat.le_refl _) | (with_reducible assumption) | omega | (simp; omega) | (simp; done)))⟩
theorem spec_CountPoints_no (q : Int) (v : Value) (l : List Int) (w : World) (hv : Sl w v l) (hl : l.length ≤ 1048576) (hn : ota q l = false) :
    Calls Try.prog 32 #[.int .i64 q, v] w fun e w' => e = .returned (.tuple #[.int .i64 0, .bool false]) ∧ Below w.heap.size w w' := by
  have hp := ctAsked_any q v l w hv hl
  rw [hn] at hp
  have HP := Lib.hid hp
  clear hp hv hn hl
  go_enter Try.func32, Try.ntmps32
  go_wp2_with fail
  refine HP.out.mono ?_
  rintro e w1 ⟨rfl, hb1⟩
  have HB1 : Hid (Below w.heap.size w w1) := Lib.hid (by first | exact hb1 | (repeat' (first | (with_reducible assumption) | (with_reducible exact Below.refl _ _) | (with_reducible refine below_drewN ?_ _) | (with_reducible refine Below.drew ?_) | (with_reducible refine Below.alloc ?_ ?_ _) | (with_reducible refine Below.setCell ?_ ?_ _) | (with_reducible refine Below.trans ?_ (Below.mono (by assumption) ?_)) | (with_reducible exact Nat.le_refl _) | (with_reducible assumption) | omega | (simp; omega) | (simp; done))))
  clear hb1
  go_wp2_with fail
  go_ret2
  have hb1 := HB1.out
  have hz1 := hb1.size
  exact ⟨rfl, by (repeat' (first | (with_reducible assumption) | (with_reducible exact Below.refl _ _) | (with_reducible refine below_drewN ?_ _) | (with_reducible refine Below.drew ?_) | (with_reducible refine Below.alloc ?_ ?_ _) | (with_reducible refine Below.setCell ?_ ?_ _) | (with_reducible refine Below.trans ?_ (Below.mono (by assumption) ?_)) | (with_reducible exact Nat.le_refl _) | (with_reducible assumption) | omega | (simp; omega) | (simp; done)))⟩
theorem impl_CountPoints_no (q : Int) (v : Value) (l : List Int) (w : World) (hv : Sl w v l) (hl : l.length ≤ 1048576) (hn : ota q l = false) :
    Calls Try.prog 31 #[.int .i64 q, v] w fun e w' => e = .returned (.tuple #[.int .i64 0, .bool false]) ∧ Below w.heap.size w w' := by
  have HP := Lib.hid (validOddPoly_no q v l w hv hl hn)
  clear hv hl hn
  go_enter Try.func31, Try.ntmps31
  go_wp2_with fail
  refine HP.out.mono ?_
  rintro e w1 ⟨rfl, hb1⟩
  have HB1 : Hid (Below w.heap.size w w1) := Lib.hid (by first | exact hb1 | (repeat' (first | (with_reducible assumption) | (with_reducible exact Below.refl _ _) | (with_reducible refine below_drewN ?_ _) | (with_reducible refine Below.drew ?_) | (with_reducible refine Below.alloc ?_ ?_ _) | (with_reducible refine Below.setCell ?_ ?_ _) | (with_reducible refine Below.trans ?_ (Below.mono (by assumption) ?_)) | (with_reducible exact Nat.le_refl _) | (with_reducible assumption) | omega | (simp; omega) | (simp; done))))
  clear hb1
  go_wp2_with fail
  go_ret2
  have hb1 := HB1.out
  have hz1 := hb1.size
  exact ⟨rfl, by (repeat' (first | (with_reducible assumption) | (with_reducible exact Below.refl _ _) | (with_reducible refine below_drewN ?_ _) | (with_reducible refine Below.drew ?_) | (with_reducible refine Below.alloc ?_ ?_ _) | (with_reducible refine Below.setCell ?_ ?_ _) | (with_reducible refine Below.trans ?_ (Below.mono (by assumption) ?_)) | (with_reducible exact Nat.le_refl _) | (with_reducible assumption) | omega | (simp; omega) | (simp; done)))⟩
set_option maxRecDepth 100000 in
set_option maxHeartbeats 4000000 in
theorem spec_CharacterSum_yes (m : Nat) (v : Value) (l : List Int) (w : World) (h : isSz (m : Int) = true) (ho : (m : Int) % 2 = 1) (hv : Sl w v l) (hg : good (m : Int) l = true) :
    Calls Try.prog 38 #[.int .i64 m, v] w fun e w' => e = .returned (.tuple #[.int .i64 (chs m (tbo m l)), .bool true]) ∧ Below w.heap.size w w' := by
  have hq := isSz_le (m : Int) h
  have hlen := (good_parts hg).1
  have hp := ctAsked_any (m : Int) v l w hv (by omega)
  rw [show ota (m : Int) l = true by simp [ota, odq, h, ho, hg]] at hp
  have HP := Lib.hid hp
  clear hp
  have hbd := chs_bd m (tbo m l)
  have HS := Lib.hid (fun w' (hb : Below w.heap.size w w') => ctSum_any m v l w' h ho (hv.below hb (Nat.le_refl _)) hg)
  clear h hg hv
  generalize chs m (tbo m l) = r at *
  go_enter Try.func38, Try.ntmps38
  go_wp2_with fail
  refine HP.out.mono ?_
  rintro e w1 ⟨rfl, hb1⟩
  have HB1 := Lib.hid hb1; clear hb1
  go_wp2_with fail
  refine (HS.out _ HB1.out).mono ?_
  rintro e w2 ⟨rfl, hb2⟩
  have HB2 := Lib.hid hb2; clear hb2
  go_wp2
  go_ret2
  have hb1 := HB1.out
  have hz1 := hb1.size
  have hb2 := HB2.out
  exact ⟨rfl, by (repeat' (first | (with_reducible assumption) | (with_reducible exact Below.refl _ _) | (with_reducible refine below_drewN ?_ _) | (with_reducible refine Below.drew ?_) | (with_reducible refine Below.alloc ?_ ?_ _) | (with_reducible refine Below.setCell ?_ ?_ _) | (with_reducible refine Below.trans ?_ (Below.mono (by assumption) ?_)) | (with_reducible exact Nat.le_refl _) | (with_reducible assumption) | omega | (simp; omega) | (simp; done)))⟩
set_option maxRecDepth 100000 in
set_option maxHeartbeats 4000000 in
theorem spec_CountPoints_yes (m : Nat) (v : Value) (l : List Int) (w : World) (h : isSz (m : Int) = true) (ho : (m : Int) % 2 = 1) (hv : Sl w v l) (hg : good (m : Int) l = true) :
    Calls Try.prog 32 #[.int .i64 m, v] w fun e w' => e = .returned (.tuple #[.int .i64 ((m : Int) + chs m (tbo m l)), .bool true]) ∧ Below w.heap.size w w' := by
  have hq := isSz_le (m : Int) h
  have hlen := (good_parts hg).1
  have hp := ctAsked_any (m : Int) v l w hv (by omega)
  rw [show ota (m : Int) l = true by simp [ota, odq, h, ho, hg]] at hp
  have HP := Lib.hid hp
  clear hp
  have hbd := chs_bd m (tbo m l)
  have HS := Lib.hid (fun w' (hb : Below w.heap.size w w') => ctSum_any m v l w' h ho (hv.below hb (Nat.le_refl _)) hg)
  clear h hg hv
  generalize chs m (tbo m l) = r at *
  have hwr : IntKind.i64.wrap ((m : Int) + r) = (m : Int) + r := IntWalk.i64_in _ (by omega)
  go_enter Try.func32, Try.ntmps32
  go_wp2_with fail
  refine HP.out.mono ?_
  rintro e w1 ⟨rfl, hb1⟩
  have HB1 := Lib.hid hb1; clear hb1
  go_wp2_with fail
  refine (HS.out _ HB1.out).mono ?_
  rintro e w2 ⟨rfl, hb2⟩
  have HB2 := Lib.hid hb2; clear hb2
  go_wp2
  go_ret2
  have hb1 := HB1.out
  have hz1 := hb1.size
  have hb2 := HB2.out
  exact ⟨rfl, by (repeat' (first | (with_reducible assumption) | (with_reducible exact Below.refl _ _) | (with_reducible refine below_drewN ?_ _) | (with_reducible refine Below.drew ?_) | (with_reducible refine Below.alloc ?_ ?_ _) | (with_reducible refine Below.setCell ?_ ?_ _) | (with_reducible refine Below.trans ?_ (Below.mono (by assumption) ?_)) | (with_reducible exact Nat.le_refl _) | (with_reducible assumption) | omega | (simp; omega) | (simp; done)))⟩
set_option maxRecDepth 100000 in
set_option maxHeartbeats 4000000 in
theorem impl_CharacterSum_yes (m : Nat) (v : Value) (l : List Int) (w : World) (h : isSz (m : Int) = true) (ho : (m : Int) % 2 = 1) (hv : Sl w v l) (hg : good (m : Int) l = true) :
    Calls Try.prog 37 #[.int .i64 m, v] w fun e w' => e = .returned (.tuple #[.int .i64 (chs m (tbo m l)), .bool true]) ∧ Below w.heap.size w w' := by
  have hq := isSz_le (m : Int) h
  have hlen := (good_parts hg).1
  have HP := Lib.hid (validOddPoly_yes m v l w h ho hv hg)
  have hbd := chs_bd m (tbo m l)
  have HS := Lib.hid (fun g w' (hg1 : g < w'.heap.size) (he : Els w' g (m : Int) (fun i => l.getD i 0) l.length) => characterSumE m g l.length l.length (fun i => l.getD i 0) w' h hg1 he (good_el hg) (by omega))
  change Hid (∀ g w', _ → _ → Calls _ _ _ _ fun e w'' => e = .returned (.int .i64 (chs m (tbo m l))) ∧ _) at HS
  clear h hg hv
  generalize chs m (tbo m l) = r at *
  go_enter Try.func37, Try.ntmps37
  go_wp2_with fail
  refine HP.out.mono ?_
  rintro e w1 ⟨g, rfl, hgl, he, hb1⟩
  have HE := Lib.hid he
  have HB1 := Lib.hid hb1; clear he hb1
  go_wp2_with fail
  refine (HS.out g _ (by simp; omega) (HE.out.below (B := w1.heap.size) (by (repeat' (first | (with_reducible assumption) | (with_reducible exact Below.refl _ _) | (with_reducible refine below_drewN ?_ _) | (with_reducible refine Below.drew ?_) | (with_reducible refine Below.alloc ?_ ?_ _) | (with_reducible refine Below.setCell ?_ ?_ _) | (with_reducible refine Below.trans ?_ (Below.mono (by assumption) ?_)) | (with_reducible exact Nat.le_refl _) | (with_reducible assumption) | omega | (simp; omega) | (simp; done)))) hgl)).mono ?_
  rintro e w2 ⟨rfl, hb2⟩
  have HB2 := Lib.hid hb2; clear hb2
  go_wp2
  go_ret2
  have hb1 := HB1.out
  have hz1 := hb1.size
  have hb2 := HB2.out
  exact ⟨rfl, by (repeat' (first | (with_reducible assumption) | (with_reducible exact Below.refl _ _) | (with_reducible refine below_drewN ?_ _) | (with_reducible refine Below.drew ?_) | (with_reducible refine Below.alloc ?_ ?_ _) | (with_reducible refine Below.setCell ?_ ?_ _) | (with_reducible refine Below.trans ?_ (Below.mono (by assumption) ?_)) | (with_reducible exact Nat.le_refl _) | (with_reducible assumption) | omega | (simp; omega) | (simp; done)))⟩
set_option maxRecDepth 100000 in
set_option maxHeartbeats 4000000 in
theorem impl_CountPoints_yes (m : Nat) (v : Value) (l : List Int) (w : World) (h : isSz (m : Int) = true) (ho : (m : Int) % 2 = 1) (hv : Sl w v l) (hg : good (m : Int) l = true) :
    Calls Try.prog 31 #[.int .i64 m, v] w fun e w' => e = .returned (.tuple #[.int .i64 ((m : Int) + chs m (tbo m l)), .bool true]) ∧ Below w.heap.size w w' := by
  have hq := isSz_le (m : Int) h
  have hlen := (good_parts hg).1
  have HP := Lib.hid (validOddPoly_yes m v l w h ho hv hg)
  have hbd := chs_bd m (tbo m l)
  have HS := Lib.hid (fun g w' (hg1 : g < w'.heap.size) (he : Els w' g (m : Int) (fun i => l.getD i 0) l.length) => countPointsE m g l.length l.length (fun i => l.getD i 0) w' h hg1 he (good_el hg) (by omega))
  change Hid (∀ g w', _ → _ → Calls _ _ _ _ fun e w'' => e = .returned (.int .i64 ((m : Int) + chs m (tbo m l))) ∧ _) at HS
  clear h hg hv
  generalize chs m (tbo m l) = r at *
  go_enter Try.func31, Try.ntmps31
  go_wp2_with fail
  refine HP.out.mono ?_
  rintro e w1 ⟨g, rfl, hgl, he, hb1⟩
  have HE := Lib.hid he
  have HB1 := Lib.hid hb1; clear he hb1
  go_wp2_with fail
  refine (HS.out g _ (by simp; omega) (HE.out.below (B := w1.heap.size) (by (repeat' (first | (with_reducible assumption) | (with_reducible exact Below.refl _ _) | (with_reducible refine below_drewN ?_ _) | (with_reducible refine Below.drew ?_) | (with_reducible refine Below.alloc ?_ ?_ _) | (with_reducible refine Below.setCell ?_ ?_ _) | (with_reducible refine Below.trans ?_ (Below.mono (by assumption) ?_)) | (with_reducible exact Nat.le_refl _) | (with_reducible assumption) | omega | (simp; omega) | (simp; done)))) hgl)).mono ?_
  rintro e w2 ⟨rfl, hb2⟩
  have HB2 := Lib.hid hb2; clear hb2
  go_wp2
  go_ret2
  have hb1 := HB1.out
  have hz1 := hb1.size
  have hb2 := HB2.out
  exact ⟨rfl, by (repeat' (first | (with_reducible assumption) | (with_reducible exact Below.refl _ _) | (with_reducible refine below_drewN ?_ _) | (with_reducible refine Below.drew ?_) | (with_reducible refine Below.alloc ?_ ?_ _) | (with_reducible refine Below.setCell ?_ ?_ _) | (with_reducible refine Below.trans ?_ (Below.mono (by assumption) ?_)) | (with_reducible exact Nat.le_refl _) | (with_reducible assumption) | omega | (simp; omega) | (simp; done)))⟩
theorem key_CharacterSum (q : Int) (l_f : List Int) (b_f : l_f.length ≤ 1048576) : ∃ (r : Int) (o : Bool), (∀ (w : World) (v_f : Value) (_ : Sl w v_f l_f), Calls Try.prog 38 #[.int .i64 q, v_f] w fun e w' => e = .returned (.tuple #[.int .i64 r, .bool o]) ∧ Below w.heap.size w w') ∧
      (∀ (w : World) (v_f : Value) (_ : Sl w v_f l_f), Calls Try.prog 37 #[.int .i64 q, v_f] w fun e w' => e = .returned (.tuple #[.int .i64 r, .bool o]) ∧ Below w.heap.size w w') := by
  cases h : ota q l_f with
  | false => exact ⟨0, false, fun w v hv => spec_CharacterSum_no q v l_f w hv b_f h, fun w v hv => impl_CharacterSum_no q v l_f w hv b_f h⟩
  | true =>
    obtain ⟨m, rfl, hs, ho, hg⟩ := ota_nat h
    exact ⟨_, true, fun w v hv => spec_CharacterSum_yes m v l_f w hs ho hv hg, fun w v hv => impl_CharacterSum_yes m v l_f w hs ho hv hg⟩
theorem key_CountPoints (q : Int) (l_f : List Int) (b_f : l_f.length ≤ 1048576) : ∃ (r : Int) (o : Bool), (∀ (w : World) (v_f : Value) (_ : Sl w v_f l_f), Calls Try.prog 32 #[.int .i64 q, v_f] w fun e w' => e = .returned (.tuple #[.int .i64 r, .bool o]) ∧ Below w.heap.size w w') ∧
      (∀ (w : World) (v_f : Value) (_ : Sl w v_f l_f), Calls Try.prog 31 #[.int .i64 q, v_f] w fun e w' => e = .returned (.tuple #[.int .i64 r, .bool o]) ∧ Below w.heap.size w w') := by
  cases h : ota q l_f with
  | false => exact ⟨0, false, fun w v hv => spec_CountPoints_no q v l_f w hv b_f h, fun w v hv => impl_CountPoints_no q v l_f w hv b_f h⟩
  | true =>
    obtain ⟨m, rfl, hs, ho, hg⟩ := ota_nat h
    exact ⟨_, true, fun w v hv => spec_CountPoints_yes m v l_f w hs ho hv hg, fun w v hv => impl_CountPoints_yes m v l_f w hs ho hv hg⟩
end Go.Proofs.Ytimpgbifnijkkab
