/- Derivatives; DerivativePoly, of both, by contracts; the walk of its law. -/
import Derived.Test.YtlhcokblbkiafabTN
import Derived.Test.YtlhcokblbkiafabKM
import Derived.Test.YtlhcokblbkiafabKH
import Derived.Test.YtlhcokblbkiafabKJ
import Derived.Test.YtlhcokblbkiafabTM
import Derived.Deep.RegionHeld3
namespace Go.Proofs.Ytlhcokblbkiafab
open Go.RowKit
theorem pg_good {m : Nat} {l : List Int} (h : isSz (m : Int) = true) (hg : good (m : Int) l = true) : PG (m : Int) l := by
  obtain ⟨h1, h2⟩ := good_parts hg
  refine ⟨all_el h h2, h1, fun h0 => ?_⟩
  have := good_last h1 h2 h0
  rw [hg] at this
  have h3 := of_decide_eq_true this.symm
  omega
set_option maxHeartbeats 1000000 in
theorem listOf_D (q : Int) (n : Nat) (f : Nat → Int) (A0 : Nat) (w : World) (hn : n ≤ 1000) (HX : ∀ (i : Nat) w', i < n → Below w.heap.size w w' → Calls Try.prog 48 #[.int .i64 i, .pointer (some ⟨A0, 0, none⟩)] w' fun e w'' => e = .returned (elE q (f i)) ∧ Below w'.heap.size w' w'') :
    Calls Try.prog 51 #[.int .i64 n, .func (.func 48) #[] #[.pointer (some ⟨A0, 0, none⟩)]] w fun e w' => e = .returned (.slice (some ⟨w.heap.size, 0, none⟩) n n) ∧ Blk w' w.heap.size n ∧ Els w' w.heap.size q f n ∧ Below w.heap.size w w' := by
  obtain ⟨i0, hi, iz0, iz1, iz2⟩ := info_parts Try.infoE
  have HXX := Lib.hid HX; clear HX
  go_enter Try.func51, Try.ntmps51
  go_wp2_with (at_make; go_must (refine wpList_make_full _ rfl _ _ 38 rfl w.heap.size 62 i0 (.agg #[.int .i64 0, .int .i64 0, .int .i64 0, .int .i64 0, .int .i64 0, .int .i64 0, .int .i64 0]) 7 Try.underlying38 hi iz0 iz1 .i64 .i64 _ _ n rfl rfl rfl rfl ?c3 ?c4 ?c5 ?_))
  case c3 => rw [iz2]; omega
  case c4 => unfold maxLen; omega
  case c5 => simp
  intro w1 hown hgrow
  have hblk : Blk w1 w.heap.size n := by
    rcases hown.2 with ⟨hx, _⟩ | ⟨g, cap, cur, hx, _, hh, _, _, hsz, _⟩
    · simp at hx
    · simp at hx
      obtain ⟨rfl, rfl⟩ := hx
      exact ⟨cur, hh, hsz⟩
  have hb : Below w.heap.size w w1 := (Below.refl _ _).grown hgrow (Nat.le_refl _) (fun k hk => by cases hk)
  have HB1 := Lib.hid hblk
  have HW1 := Lib.hid hb
  clear hown hgrow hblk hb
  go_wp2_with fail
  go_loopw [11] (fun vi wr => ∃ i : Nat, i ≤ n ∧ vi = .int .i64 i ∧ Blk wr w.heap.size n ∧ Els wr w.heap.size q f i ∧ Below w.heap.size w wr) (fun vi _ => n - (intOf vi).toNat)
  case atStart => exact ⟨0, Nat.zero_le _, rfl, HB1.out, fun j hj => by omega, HW1.out⟩
  case round =>
    obtain ⟨i, hi, rfl, hk, he, hb⟩ := hrel
    have HK := Lib.hid hk; clear hk
    have HEl := Lib.hid he; clear he
    have HB := Lib.hid hb; clear hb
    by_cases hlt : i < n
    · have HX' := Lib.hid (HXX.out i _ hlt HB.out)
      have hlt1 := HK.out.lt
      go_wp2_with fail
      refine HX'.out.mono ?_
      rintro e w2 ⟨rfl, hb2⟩
      have hk2 : Blk w2 w.heap.size n := HK.out.below hb2 hlt1
      have he2 : Els w2 w.heap.size q f i := HEl.out.below hb2 hlt1
      have HB2 := Lib.hid (HB.out.trans (hb2.mono HB.out.size))
      clear hb2
      obtain ⟨x0, c0⟩ := hk2.at (i * 7) (by omega)
      obtain ⟨x1, c1⟩ := hk2.at (i * 7 + 1) (by omega)
      obtain ⟨x2, c2⟩ := hk2.at (i * 7 + 2) (by omega)
      obtain ⟨x3, c3⟩ := hk2.at (i * 7 + 3) (by omega)
      obtain ⟨x4, c4⟩ := hk2.at (i * 7 + 4) (by omega)
      obtain ⟨x5, c5⟩ := hk2.at (i * 7 + 5) (by omega)
      obtain ⟨x6, c6⟩ := hk2.at (i * 7 + 6) (by omega)
      have fr := hk2.free
      have HST := Lib.hid (Els.step (f := f) hk2 hlt he2)
      clear hk2 he2
      generalize f i = x at *
      go_wp2
      go_roundw
      case rel => exact ⟨i + 1, by omega, by go_num, HST.out.2, HST.out.1, put7i_below HB2.out _ (Nat.le_refl _) _ _ _⟩
      case measure => simp [intOf]; omega
    · obtain rfl : n = i := by omega
      go_wp2
      go_ret
      exact ⟨rfl, HK.out, HEl.out, HB.out⟩
set_option maxRecDepth 100000 in
set_option maxHeartbeats 4000000 in
/-- The closure of impl.poly.derivative. -/
theorem derivClo (m i n g cap S : Nat) (f : Nat → Int) (w : World) (h : isSz (m : Int) = true) (hi : i + 1 < n) (hn : n ≤ m) (hel : El (m : Int) (f (i + 1))) (he : Els w g (m : Int) f n) (hgl : g < w.heap.size)
    (hS : w.heap[S]? = some (pblk (m : Int) (.slice (some ⟨g, 0, none⟩) n cap))) :
    Calls Try.prog 48 #[.int .i64 i, .pointer (some ⟨S, 0, none⟩)] w fun e w' => e = .returned (elE (m : Int) (drv m f i)) ∧ Below w.heap.size w w' := by
  have hq := isSz_le (m : Int) h
  have HT := Lib.hid (fun w => timE (m : Int) (f (i + 1)) (i + 1) w h hel (by omega))
  obtain ⟨x0, x1, x2, x3, xf, xl⟩ := cells4 hS
  obtain ⟨y0, y1, y2, y3, y4, y5, y6⟩ := he (i + 1) hi
  unfold drv
  clear h hel he hS
  have hwr : IntKind.i64.wrap ((i : Int) + 1) = ((i + 1 : Nat) : Int) := by rw [IntWalk.i64_in _ (by omega)]; rfl
  generalize tim (m : Int) (f (i + 1)) (i + 1) = r at *
  generalize f (i + 1) = y at *
  generalize i + 1 = k at *
  go_enter Try.func48, Try.ntmps48
  go_wp2_with fail
  refine (HT.out _).mono ?_
  rintro e w1 ⟨rfl, hb1⟩
  have HB1 := Lib.hid hb1
  have hr : w1.heap[w.heap.size]? = some zblk := (hb1.block _ (by simp)).trans (heap_alloc_new w _)
  obtain ⟨r0, r1, r2, r3, r4, r5, r6, rf, rl⟩ := seven hr
  clear hb1
  go_wp2_with fail
  have hb1 := HB1.out
  refine bodyPost_ret (v := elE (m : Int) r) (by simp [results, Try.results48, go_sem, r0, r1, r2, r3, r4, r5, r6]) rfl ⟨rfl, ?_⟩
  (repeat' (first | (with_reducible assumption) | (with_reducible exact Below.refl _ _) | (with_reducible refine below_drewN ?_ _) | (with_reducible refine Below.drew ?_) | (with_reducible refine Below.alloc ?_ ?_ _) | (with_reducible refine Below.setCell ?_ ?_ _) | (with_reducible refine Below.trans ?_ (Below.mono (by assumption) ?_)) | (with_reducible exact Nat.le_refl _) | (with_reducible assumption) | omega | (simp; omega) | (simp; done)))
set_option maxRecDepth 100000 in
set_option maxHeartbeats 4000000 in
/-- impl.poly.derivative, with few. -/
theorem derivE_none (m g cap : Nat) (f : Nat → Int) (w : World) (h : isSz (m : Int) = true) (hg : g < w.heap.size) (he : Els w g (m : Int) f 0) (hf : ∀ i, El (m : Int) (f i)) (hn : 0 ≤ m) :
    Calls Try.prog 25 #[polyE (m : Int) (.slice (some ⟨g, 0, none⟩) 0 cap)] w fun e w' => ∃ g' cap', e = .returned (polyE (m : Int) (.slice (some ⟨g', 0, none⟩) (sn (drv m f) (0 - 1)) cap')) ∧ w.heap.size ≤ g' ∧ g' < w'.heap.size ∧ Els w' g' (m : Int) (drv m f) (sn (drv m f) (0 - 1)) ∧ Below w.heap.size w w' := by
  have hq := isSz_le (m : Int) h
  have HDEG := Lib.hid (fun w => degreeE (m : Int) g 0 cap w (by omega))
  have HL : Hid (∀ w', Below (w.heap.size + 1) (w.alloc (pblk (m : Int) (.slice (some ⟨g, 0, none⟩) 0 cap))) w' → Calls Try.prog 51 #[.int .i64 ((0 - 1 : Nat) : Int), .func (.func 48) #[] #[.pointer (some ⟨w.heap.size, 0, none⟩)]] w' fun e w'' => ∃ g', e = .returned (.slice (some ⟨g', 0, none⟩) (0 - 1) (0 - 1)) ∧ w'.heap.size ≤ g' ∧ g' < w''.heap.size ∧ Els w'' g' (m : Int) (drv m f) (0 - 1) ∧ Below w'.heap.size w' w'') := Lib.hid fun w' hb => by
    have hz := hb.size
    simp at hz
    refine (listOf_D (m : Int) (0 - 1) (drv m f) w.heap.size w' (by omega) fun i w2 hi hb2 => ?_).mono ?_
    · have hz2 := hb2.size
      exact derivClo m i 0 g cap w.heap.size f w2 h (by omega) hn (hf _) ((he.below (B := w.heap.size) (w' := w') (by (repeat' (first | (with_reducible assumption) | (with_reducible exact Below.refl _ _) | (with_reducible refine below_drewN ?_ _) | (with_reducible refine Below.drew ?_) | (with_reducible refine Below.alloc ?_ ?_ _) | (with_reducible refine Below.setCell ?_ ?_ _) | (with_reducible refine Below.trans ?_ (Below.mono (by assumption) ?_)) | (with_reducible exact Nat.le_refl _) | (with_reducible assumption) | omega | (simp; omega) | (simp; done)))) hg).below hb2 (by omega)) (by omega) ((hb2.block _ (by omega)).trans ((hb.block _ (by omega)).trans (heap_alloc_new w _)))
    · rintro e w2 ⟨rfl, h1, h2, h3⟩
      exact ⟨_, rfl, Nat.le_refl _, h1.lt, h2, h3⟩
  have HR : Hid (∀ g' w', g' < w'.heap.size → Els w' g' (m : Int) (drv m f) (0 - 1) → Calls Try.prog 50 #[fdE (m : Int), .slice (some ⟨g', 0, none⟩) (0 - 1) (0 - 1)] w' fun e w'' => ∃ g' cap', e = .returned (polyE (m : Int) (.slice (some ⟨g', 0, none⟩) (sn (drv m f) (0 - 1)) cap')) ∧ w'.heap.size ≤ g' ∧ g' < w''.heap.size ∧ Els w'' g' (m : Int) (drv m f) (sn (drv m f) (0 - 1)) ∧ Below w'.heap.size w' w'') := Lib.hid fun g' w' hg' he' => by
    have hel : ∀ i, El (m : Int) (drv m f i) := drv_el h hf
    have e1 := (red_short (n := 0 - 1) h hel (by omega)).1
    refine (reducedF m _ (drv m f) (0 - 1) w' h ⟨g', _, rfl, hg', he'⟩ hel (by omega)).mono ?_
    rintro e w2 ⟨g2, c2, rfl, h1, h2, h3, h4⟩
    rw [e1] at h3
    exact ⟨g2, c2, by rw [e1], h1, h2, fun i hi => by rw [← show redR m (drv m f) (0 - 1) i = drv m f i from by rw [redR_small m _ h hel (0 - 1) (by omega), if_pos (by have := sn_le (drv m f) (0 - 1); omega)]]; exact h3 i hi, h4⟩
  clear h he hf
  have hmx : ((0 - 1 : Nat) : Int) = 0 := rfl
  change Hid (∀ w', _ → Calls _ _ #[.int .i64 0, _] _ _) at HL
  generalize drv (m : Int) f = F at *
  go_enter Try.func25, Try.ntmps25
  go_wp2_with fail
  have HT := Lib.hid (two w (pblk (m : Int) (.slice (some ⟨g, 0, none⟩) 0 cap)) pzblk)
  have HKEEP : Hid (∀ w', Below (w.heap.size + 1) (w.alloc (pblk (m : Int) (.slice (some ⟨g, 0, none⟩) 0 cap))) w' → w'.cell? ⟨w.heap.size, 0, none⟩ = some (.int .i64 m) ∧ w'.cell? ⟨w.heap.size, 1, none⟩ = some (.int .i64 (pr m)) ∧ w'.cell? ⟨w.heap.size, 2, none⟩ = some (.int .i64 (pl m)) ∧ w'.cell? ⟨w.heap.size, 3, none⟩ = some (.slice (some ⟨g, 0, none⟩) 0 cap)) := Lib.hid fun w' hb => by
    obtain ⟨x0, x1, x2, x3, _⟩ := cells4 ((hb.block _ (by omega)).trans (heap_alloc_new w _))
    exact ⟨x0, x1, x2, x3⟩
  go_region_held3 (fun w' => w'.cell? ⟨w.heap.size, 0, none⟩ = some (.int .i64 m) ∧ w'.cell? ⟨w.heap.size, 1, none⟩ = some (.int .i64 (pr m)) ∧ w'.cell? ⟨w.heap.size, 2, none⟩ = some (.int .i64 (pl m)) ∧ w'.cell? ⟨w.heap.size, 3, none⟩ = some (.slice (some ⟨g, 0, none⟩) 0 cap))
    (exact HKEEP.out _ (by (try have hb3 := HB3.out); (try have hb4 := HB4.out); (try have hb5 := HB5.out); (repeat' (first | (with_reducible assumption) | (with_reducible exact Below.refl _ _) | (with_reducible refine below_drewN ?_ _) | (with_reducible refine Below.drew ?_) | (with_reducible refine Below.alloc ?_ ?_ _) | (with_reducible refine Below.setCell ?_ ?_ _) | (with_reducible refine Below.trans ?_ (Below.mono (by assumption) ?_)) | (with_reducible exact Nat.le_refl _) | (with_reducible assumption) | omega | (simp; omega) | (simp; done)))))
    (first
    | (go_at_call 35; refine (HDEG.out _).mono ?_; rintro e w3 ⟨rfl, hb3⟩; obtain ⟨hc3, hf3⟩ := bcell hb3; (try simp only [World.size_drew] at hc3 hf3); have hz3 := hb3.size; (try simp at hz3); have HB3 := Lib.hid hb3; clear hb3)
    | (go_at_call 51; refine (HL.out _ (by have hb3 := HB3.out; (repeat' (first | (with_reducible assumption) | (with_reducible exact Below.refl _ _) | (with_reducible refine below_drewN ?_ _) | (with_reducible refine Below.drew ?_) | (with_reducible refine Below.alloc ?_ ?_ _) | (with_reducible refine Below.setCell ?_ ?_ _) | (with_reducible refine Below.trans ?_ (Below.mono (by assumption) ?_)) | (with_reducible exact Nat.le_refl _) | (with_reducible assumption) | omega | (simp; omega) | (simp; done))))).mono ?_; rintro e w4 ⟨g4, rfl, hlo4, hg4, he4, hb4⟩; have HE4 := Lib.hid he4; clear he4; obtain ⟨hc4, hf4⟩ := bcell hb4; (try simp only [World.size_drew] at hc4 hf4); have hz4 := hb4.size; (try simp at hz4); have HB4 := Lib.hid hb4; clear hb4)
    | (go_at_call 50; refine (HR.out _ _ (by first | exact hg4 | (simp; omega)) HE4.out).mono ?_; rintro e w5 ⟨g5, cp5, rfl, hlo5, hg5, he5, hb5⟩; have HE5 := Lib.hid he5; clear he5; obtain ⟨hc5, hf5⟩ := bcell hb5; (try simp only [World.size_drew] at hc5 hf5); have hz5 := hb5.size; (try simp at hz5); have HB5 := Lib.hid hb5; clear hb5; have l5 : w.heap.size + 1 < w5.heap.size := (by omega); have hr5 : w5.heap[w.heap.size + 1]? = some pzblk := (Below.block (B := w.heap.size + 2) (w := (w.alloc (pblk (m : Int) (.slice (some ⟨g, 0, none⟩) 0 cap))).alloc pzblk) (by (try have hb3 := HB3.out); (try have hb4 := HB4.out); have hb5 := HB5.out; (repeat' (first | (with_reducible assumption) | (with_reducible exact Below.refl _ _) | (with_reducible refine below_drewN ?_ _) | (with_reducible refine Below.drew ?_) | (with_reducible refine Below.alloc ?_ ?_ _) | (with_reducible refine Below.setCell ?_ ?_ _) | (with_reducible refine Below.trans ?_ (Below.mono (by assumption) ?_)) | (with_reducible exact Nat.le_refl _) | (with_reducible assumption) | omega | (simp; omega) | (simp; done)))) (w.heap.size + 1) (by omega)).trans HT.out.2; obtain ⟨s0, s1, s2, s3, sf, sl⟩ := cells4 hr5))
  all_goals
    go_wp2_with fail
    have hb3 := HB3.out
    have hb4 := HB4.out
    have hb5 := HB5.out
    refine bodyPost_ret (v := polyE (m : Int) (.slice (some ⟨g5, 0, none⟩) (sn F (0 - 1)) cp5)) (by simp [results, Try.results25, go_sem, s0, s1, s2, s3]) rfl ⟨g5, cp5, rfl, by omega, by simp; omega, ?_, ?_⟩
    · exact HE5.out.over hr5 (by omega) (fun k hk => by (repeat' (first | (with_reducible rfl) | (with_reducible refine (heap_setCell_other _ _ _ _ ?_).trans ?_) | (with_reducible refine (drew_heap' _ _).trans ?_) | exact hk)))
    · (repeat' (first | (with_reducible assumption) | (with_reducible exact Below.refl _ _) | (with_reducible refine below_drewN ?_ _) | (with_reducible refine Below.drew ?_) | (with_reducible refine Below.alloc ?_ ?_ _) | (with_reducible refine Below.setCell ?_ ?_ _) | (with_reducible refine Below.trans ?_ (Below.mono (by assumption) ?_)) | (with_reducible exact Nat.le_refl _) | (with_reducible assumption) | omega | (simp; omega) | (simp; done)))
set_option maxRecDepth 100000 in
set_option maxHeartbeats 4000000 in
/-- impl.poly.derivative, with some. -/
theorem derivE_some (m n g cap : Nat) (f : Nat → Int) (w : World) (h : isSz (m : Int) = true) (hg : g < w.heap.size) (he : Els w g (m : Int) f n) (hf : ∀ i, El (m : Int) (f i)) (hn : n ≤ m) (h0 : 0 < n) :
    Calls Try.prog 25 #[polyE (m : Int) (.slice (some ⟨g, 0, none⟩) n cap)] w fun e w' => ∃ g' cap', e = .returned (polyE (m : Int) (.slice (some ⟨g', 0, none⟩) (sn (drv m f) (n - 1)) cap')) ∧ w.heap.size ≤ g' ∧ g' < w'.heap.size ∧ Els w' g' (m : Int) (drv m f) (sn (drv m f) (n - 1)) ∧ Below w.heap.size w w' := by
  have hq := isSz_le (m : Int) h
  have HDEG := Lib.hid (fun w => degreeE (m : Int) g n cap w (by omega))
  have HL : Hid (∀ w', Below (w.heap.size + 1) (w.alloc (pblk (m : Int) (.slice (some ⟨g, 0, none⟩) n cap))) w' → Calls Try.prog 51 #[.int .i64 ((n - 1 : Nat) : Int), .func (.func 48) #[] #[.pointer (some ⟨w.heap.size, 0, none⟩)]] w' fun e w'' => ∃ g', e = .returned (.slice (some ⟨g', 0, none⟩) (n - 1) (n - 1)) ∧ w'.heap.size ≤ g' ∧ g' < w''.heap.size ∧ Els w'' g' (m : Int) (drv m f) (n - 1) ∧ Below w'.heap.size w' w'') := Lib.hid fun w' hb => by
    have hz := hb.size
    simp at hz
    refine (listOf_D (m : Int) (n - 1) (drv m f) w.heap.size w' (by omega) fun i w2 hi hb2 => ?_).mono ?_
    · have hz2 := hb2.size
      exact derivClo m i n g cap w.heap.size f w2 h (by omega) hn (hf _) ((he.below (B := w.heap.size) (w' := w') (by (repeat' (first | (with_reducible assumption) | (with_reducible exact Below.refl _ _) | (with_reducible refine below_drewN ?_ _) | (with_reducible refine Below.drew ?_) | (with_reducible refine Below.alloc ?_ ?_ _) | (with_reducible refine Below.setCell ?_ ?_ _) | (with_reducible refine Below.trans ?_ (Below.mono (by assumption) ?_)) | (with_reducible exact Nat.le_refl _) | (with_reducible assumption) | omega | (simp; omega) | (simp; done)))) hg).below hb2 (by omega)) (by omega) ((hb2.block _ (by omega)).trans ((hb.block _ (by omega)).trans (heap_alloc_new w _)))
    · rintro e w2 ⟨rfl, h1, h2, h3⟩
      exact ⟨_, rfl, Nat.le_refl _, h1.lt, h2, h3⟩
  have HR : Hid (∀ g' w', g' < w'.heap.size → Els w' g' (m : Int) (drv m f) (n - 1) → Calls Try.prog 50 #[fdE (m : Int), .slice (some ⟨g', 0, none⟩) (n - 1) (n - 1)] w' fun e w'' => ∃ g' cap', e = .returned (polyE (m : Int) (.slice (some ⟨g', 0, none⟩) (sn (drv m f) (n - 1)) cap')) ∧ w'.heap.size ≤ g' ∧ g' < w''.heap.size ∧ Els w'' g' (m : Int) (drv m f) (sn (drv m f) (n - 1)) ∧ Below w'.heap.size w' w'') := Lib.hid fun g' w' hg' he' => by
    have hel : ∀ i, El (m : Int) (drv m f i) := drv_el h hf
    have e1 := (red_short (n := n - 1) h hel (by omega)).1
    refine (reducedF m _ (drv m f) (n - 1) w' h ⟨g', _, rfl, hg', he'⟩ hel (by omega)).mono ?_
    rintro e w2 ⟨g2, c2, rfl, h1, h2, h3, h4⟩
    rw [e1] at h3
    exact ⟨g2, c2, by rw [e1], h1, h2, fun i hi => by rw [← show redR m (drv m f) (n - 1) i = drv m f i from by rw [redR_small m _ h hel (n - 1) (by omega), if_pos (by have := sn_le (drv m f) (n - 1); omega)]]; exact h3 i hi, h4⟩
  clear h he hf
  have hz1 : ((n : Int) - 1) = ((n - 1 : Nat) : Int) := by omega
  rw [hz1] at HDEG
  clear hz1
  generalize n - 1 = d at *
  have hmx : ¬ ((d : Int) < 0) := by omega
  generalize drv (m : Int) f = F at *
  go_enter Try.func25, Try.ntmps25
  go_wp2_with fail
  have HT := Lib.hid (two w (pblk (m : Int) (.slice (some ⟨g, 0, none⟩) n cap)) pzblk)
  have HKEEP : Hid (∀ w', Below (w.heap.size + 1) (w.alloc (pblk (m : Int) (.slice (some ⟨g, 0, none⟩) n cap))) w' → w'.cell? ⟨w.heap.size, 0, none⟩ = some (.int .i64 m) ∧ w'.cell? ⟨w.heap.size, 1, none⟩ = some (.int .i64 (pr m)) ∧ w'.cell? ⟨w.heap.size, 2, none⟩ = some (.int .i64 (pl m)) ∧ w'.cell? ⟨w.heap.size, 3, none⟩ = some (.slice (some ⟨g, 0, none⟩) n cap)) := Lib.hid fun w' hb => by
    obtain ⟨x0, x1, x2, x3, _⟩ := cells4 ((hb.block _ (by omega)).trans (heap_alloc_new w _))
    exact ⟨x0, x1, x2, x3⟩
  go_region_held3 (fun w' => w'.cell? ⟨w.heap.size, 0, none⟩ = some (.int .i64 m) ∧ w'.cell? ⟨w.heap.size, 1, none⟩ = some (.int .i64 (pr m)) ∧ w'.cell? ⟨w.heap.size, 2, none⟩ = some (.int .i64 (pl m)) ∧ w'.cell? ⟨w.heap.size, 3, none⟩ = some (.slice (some ⟨g, 0, none⟩) n cap))
    (exact HKEEP.out _ (by (try have hb3 := HB3.out); (try have hb4 := HB4.out); (try have hb5 := HB5.out); (repeat' (first | (with_reducible assumption) | (with_reducible exact Below.refl _ _) | (with_reducible refine below_drewN ?_ _) | (with_reducible refine Below.drew ?_) | (with_reducible refine Below.alloc ?_ ?_ _) | (with_reducible refine Below.setCell ?_ ?_ _) | (with_reducible refine Below.trans ?_ (Below.mono (by assumption) ?_)) | (with_reducible exact Nat.le_refl _) | (with_reducible assumption) | omega | (simp; omega) | (simp; done)))))
    (first
    | (go_at_call 35; refine (HDEG.out _).mono ?_; rintro e w3 ⟨rfl, hb3⟩; obtain ⟨hc3, hf3⟩ := bcell hb3; (try simp only [World.size_drew] at hc3 hf3); have hz3 := hb3.size; (try simp at hz3); have HB3 := Lib.hid hb3; clear hb3)
    | (go_at_call 51; refine (HL.out _ (by have hb3 := HB3.out; (repeat' (first | (with_reducible assumption) | (with_reducible exact Below.refl _ _) | (with_reducible refine below_drewN ?_ _) | (with_reducible refine Below.drew ?_) | (with_reducible refine Below.alloc ?_ ?_ _) | (with_reducible refine Below.setCell ?_ ?_ _) | (with_reducible refine Below.trans ?_ (Below.mono (by assumption) ?_)) | (with_reducible exact Nat.le_refl _) | (with_reducible assumption) | omega | (simp; omega) | (simp; done))))).mono ?_; rintro e w4 ⟨g4, rfl, hlo4, hg4, he4, hb4⟩; have HE4 := Lib.hid he4; clear he4; obtain ⟨hc4, hf4⟩ := bcell hb4; (try simp only [World.size_drew] at hc4 hf4); have hz4 := hb4.size; (try simp at hz4); have HB4 := Lib.hid hb4; clear hb4)
    | (go_at_call 50; refine (HR.out _ _ (by first | exact hg4 | (simp; omega)) HE4.out).mono ?_; rintro e w5 ⟨g5, cp5, rfl, hlo5, hg5, he5, hb5⟩; have HE5 := Lib.hid he5; clear he5; obtain ⟨hc5, hf5⟩ := bcell hb5; (try simp only [World.size_drew] at hc5 hf5); have hz5 := hb5.size; (try simp at hz5); have HB5 := Lib.hid hb5; clear hb5; have l5 : w.heap.size + 1 < w5.heap.size := (by omega); have hr5 : w5.heap[w.heap.size + 1]? = some pzblk := (Below.block (B := w.heap.size + 2) (w := (w.alloc (pblk (m : Int) (.slice (some ⟨g, 0, none⟩) n cap))).alloc pzblk) (by (try have hb3 := HB3.out); (try have hb4 := HB4.out); have hb5 := HB5.out; (repeat' (first | (with_reducible assumption) | (with_reducible exact Below.refl _ _) | (with_reducible refine below_drewN ?_ _) | (with_reducible refine Below.drew ?_) | (with_reducible refine Below.alloc ?_ ?_ _) | (with_reducible refine Below.setCell ?_ ?_ _) | (with_reducible refine Below.trans ?_ (Below.mono (by assumption) ?_)) | (with_reducible exact Nat.le_refl _) | (with_reducible assumption) | omega | (simp; omega) | (simp; done)))) (w.heap.size + 1) (by omega)).trans HT.out.2; obtain ⟨s0, s1, s2, s3, sf, sl⟩ := cells4 hr5))
  all_goals
    go_wp2_with fail
    have hb3 := HB3.out
    have hb4 := HB4.out
    have hb5 := HB5.out
    refine bodyPost_ret (v := polyE (m : Int) (.slice (some ⟨g5, 0, none⟩) (sn F d) cp5)) (by simp [results, Try.results25, go_sem, s0, s1, s2, s3]) rfl ⟨g5, cp5, rfl, by omega, by simp; omega, ?_, ?_⟩
    · exact HE5.out.over hr5 (by omega) (fun k hk => by (repeat' (first | (with_reducible rfl) | (with_reducible refine (heap_setCell_other _ _ _ _ ?_).trans ?_) | (with_reducible refine (drew_heap' _ _).trans ?_) | exact hk)))
    · (repeat' (first | (with_reducible assumption) | (with_reducible exact Below.refl _ _) | (with_reducible refine below_drewN ?_ _) | (with_reducible refine Below.drew ?_) | (with_reducible refine Below.alloc ?_ ?_ _) | (with_reducible refine Below.setCell ?_ ?_ _) | (with_reducible refine Below.trans ?_ (Below.mono (by assumption) ?_)) | (with_reducible exact Nat.le_refl _) | (with_reducible assumption) | omega | (simp; omega) | (simp; done)))
theorem derivE (m n g cap : Nat) (f : Nat → Int) (w : World) (h : isSz (m : Int) = true) (hg : g < w.heap.size) (he : Els w g (m : Int) f n) (hf : ∀ i, El (m : Int) (f i)) (hn : n ≤ m) :
    Calls Try.prog 25 #[polyE (m : Int) (.slice (some ⟨g, 0, none⟩) n cap)] w fun e w' => ∃ g' cap', e = .returned (polyE (m : Int) (.slice (some ⟨g', 0, none⟩) (sn (drv m f) (n - 1)) cap')) ∧ w.heap.size ≤ g' ∧ g' < w'.heap.size ∧ Els w' g' (m : Int) (drv m f) (sn (drv m f) (n - 1)) ∧ Below w.heap.size w w' := by
  by_cases h0 : 0 < n
  · exact derivE_some m n g cap f w h hg he hf hn h0
  · obtain rfl : n = 0 := by omega
    exact derivE_none m g cap f w h hg he hf hn
set_option maxRecDepth 100000 in
set_option maxHeartbeats 4000000 in
/-- spec.ctDerivative. -/
theorem ctDerivative_any (m : Nat) (v : Value) (l : List Int) (w : World) (h : isSz (m : Int) = true) (hv : Sl w v l) (hp : PG (m : Int) l) :
    Calls Try.prog 23 #[.int .i64 m, v] w fun e w' => ∃ v', e = .returned v' ∧ Row w' w.heap.size v' (drvL m l) ∧ Below w.heap.size w w' := by
  obtain ⟨i0, hi, iz0, iz1, iz2⟩ := info_parts Try.infoI
  have hq := isSz_le (m : Int) h
  have hle := hp.le
  have HP : Hid (∀ k i w, Calls Try.prog 42 #[.int .i64 m, .int .i64 (tim m (cfs l k) i), .int .i64 (cfs l k)] w fun e w' => e = .returned (.int .i64 (tim m (cfs l k) (i + 1))) ∧ Below w.heap.size w w') := Lib.hid fun k i w =>
    fdPlus_any (m : Int) _ _ w h (tim_el h (hp.el k) i).1 (tim_el h (hp.el k) i).2 (hp.el k).1 (hp.el k).2
  have HSH := Lib.hid (fun v' w' B (hr : Row w' B v' (fl (drv m (cfs l)) (l.length - 1))) => plShort_row v' (l.length - 1) B (drv m (cfs l)) w' hr (by omega))
  have HC : Hid (0 < l.length → ∃ b off cap, v = .slice (some ⟨b, off, none⟩) l.length cap ∧ b < w.heap.size ∧ ∀ j, j < l.length → w.cell? ⟨b, off + j, none⟩ = some (.int .i64 (cfs l j))) := Lib.hid fun h0 => hv.open rfl h0
  obtain ⟨av, cv, hvv⟩ := hv.form
  have HD : Hid (∀ i, drv m (cfs l) i = tim m (cfs l (i + 1)) (i + 1)) := Lib.hid fun _ => rfl
  have HT0 : Hid (∀ k, tim m (cfs l k) 0 = 0) := Lib.hid fun _ => rfl
  unfold drvL
  clear h hp hv
  generalize drv m (cfs l) = F at *
  generalize cfs l = c at *
  generalize l.length = n at *
  subst hvv
  go_enter Try.func23, Try.ntmps23
  go_wp2_with fail
  go_loopw [5, 6] (fun vo vk wr => ∃ k : Nat, 1 ≤ k ∧ (k ≤ n ∨ k = 1) ∧ vk = .int .i64 k ∧ Row wr w.heap.size vo (fl F (k - 1)) ∧ Below w.heap.size w wr) (fun _ vk _ => n - (intOf vk).toNat)
  case atStart => exact ⟨1, Nat.le_refl _, .inr rfl, rfl, Row.nil _ _, Below.refl _ _⟩
  case round =>
    obtain ⟨k, hk1, hk, rfl, hr, hb⟩ := hrel
    obtain ⟨wo, rfl⟩ : ∃ x : World, x = wr := ⟨_, rfl⟩
    have hzb := hb.size
    by_cases hlt : k < n
    · obtain ⟨b, off, cap, hv, hbl, hcell⟩ := HC.out (by omega)
      injection hv with hv1 hv2 hv3
      subst hv1 hv3
      have hcell0 := hcell k hlt
      have hcell := (hb.cell (p := ⟨b, off + k, none⟩) hbl).trans hcell0
      have HHP := Lib.hid (HP.out k)
      have HDK := Lib.hid (HD.out (k - 1))
      rw [show k - 1 + 1 = k by omega] at HDK
      have HT0' := Lib.hid (HT0.out k)
      have HRR := Lib.hid hr
      have HBB := Lib.hid hb
      clear hr hb hcell0
      generalize tim (m : Int) (c k) = T at *
      generalize c k = x at *
      go_wp2_with fail
      go_loopw [7, 8] (fun vs vi ws => ∃ i : Nat, i ≤ k ∧ vi = .int .i64 i ∧ vs = .int .i64 (T i) ∧ Below wo.heap.size wo ws) (fun _ vi _ => k - (intOf vi).toNat)
      case atStart => exact ⟨0, Nat.zero_le _, rfl, by rw [HT0'.out], Below.refl _ _⟩
      case round =>
        obtain ⟨i, hik, rfl, rfl, hbs⟩ := hrel
        have hzs := hbs.size
        by_cases hlt2 : i < k
        · have hcell2 := (hbs.cell (p := ⟨b, off + k, none⟩) (by show b < _; omega)).trans hcell
          have HHP' := Lib.hid (HHP.out i)
          have HBS := Lib.hid hbs
          clear hbs
          obtain ⟨z, hz⟩ : ∃ z, T (i + 1) = z := ⟨_, rfl⟩
          rw [hz] at HHP'
          have HZ := Lib.hid hz
          clear hz
          generalize T i = y at *
          go_wp2_with fail
          refine (HHP'.out _).mono ?_
          rintro e w5 ⟨rfl, hb5⟩
          have HB5 := Lib.hid (HBS.out.trans (hb5.mono hzs))
          clear hb5
          go_wp2
          go_roundw
          case rel => exact ⟨i + 1, by omega, by go_num, by rw [HZ.out], HB5.out⟩
          case measure => simp [intOf]; omega
        · obtain rfl : k = i := by omega
          have HBS := Lib.hid hbs
          have HRS := Lib.hid (HRR.out.below hbs)
          clear hbs
          obtain ⟨ao, co, hvo⟩ := HRR.out.sl.form
          rw [fl_len] at hvo
          subst hvo
          have HOW : Hid (∀ w', Row w' w.heap.size (.slice ao (k - 1) co) (fl F (k - 1)) → w'.ownsRow w.heap.size 3 1 (.slice ao (k - 1) co) (k - 1) ((fl F (k - 1)).map (Value.int .i64))) := Lib.hid fun w' hr => by
            have h' := hr
            unfold Row at h'
            rw [fl_len] at h'
            exact h'
          go_wp2_with (at_builtin; refine wpList_append_own _ rfl _ _ 22 rfl w.heap.size 3 i0 (.int .i64 0) 1 8 Try.underlying22 hi iz0 iz1 iz2 rfl (by decide) _ _ _ rfl (HOW.out _ (HRS.out.alloc _)) ⟨wr.heap.size, 0, none⟩ 1 1 [.int .i64 (T k)] rfl rfl ?c1 ?c2 ?c3 ?c4 ?c5 ?_)
          case c1 => exact cell_one_new _ _ _
          case c2 => first | rfl | (intro u hu; simp at hu; subst hu; rfl)
          case c3 => unfold maxLen; omega
          case c4 => omega
          case c5 => first | omega | (simp; omega)
          intro v' w6 hown hgrow _
          have hr6 : Row w6 w.heap.size v' (fl F (k + 1 - 1)) := by
            have e1 : fl F (k + 1 - 1) = fl F (k - 1) ++ [T k] := by
              rw [show k + 1 - 1 = (k - 1) + 1 by omega, fl_succ, HDK.out]
            rw [e1]
            exact Row.appended (by rw [fl_len, show k - 1 + 1 = k by omega]; exact hown)
          have hbA : Below w.heap.size w (wr.alloc (.cells #[.int .i64 (T k)] 3)) := by have hb1 := HBB.out; have hb2 := HBS.out; (repeat' (first | (with_reducible assumption) | (with_reducible exact Below.refl _ _) | (with_reducible refine below_drewN ?_ _) | (with_reducible refine Below.drew ?_) | (with_reducible refine Below.alloc ?_ ?_ _) | (with_reducible refine Below.setCell ?_ ?_ _) | (with_reducible refine Below.trans ?_ (Below.mono (by assumption) ?_)) | (with_reducible exact Nat.le_refl _) | (with_reducible assumption) | omega | (simp; omega) | (simp; done)))
          have HB6 := Lib.hid (hbA.grown hgrow (by simp; omega) (fun g hg => (HRS.out.lt g hg).1))
          have HR6 := Lib.hid hr6
          clear hown hgrow hbA hr6
          go_wp2
          go_roundw
          case rel => exact ⟨k + 1, by omega, .inl (by omega), by go_num, HR6.out, HB6.out⟩
          case measure => simp [intOf]; omega
    · have hk0 : k - 1 = n - 1 := by omega
      rw [hk0] at hr
      have HS := Lib.hid (HSH.out _ wo _ hr)
      have HBB := Lib.hid hb
      have hge : ¬ ((k : Int) < (n : Int)) := by omega
      clear hr hb
      go_wp2_with fail
      refine HS.out.mono ?_
      rintro e w5 ⟨v5, rfl, hr5, hb5⟩
      have HR5 := Lib.hid hr5; clear hr5
      have HB5 := Lib.hid hb5; clear hb5
      go_wp2
      go_ret
      have hb := HBB.out
      have hb5 := HB5.out
      exact ⟨_, rfl, HR5.out.mono hzb, by (repeat' (first | (with_reducible assumption) | (with_reducible exact Below.refl _ _) | (with_reducible refine below_drewN ?_ _) | (with_reducible refine Below.drew ?_) | (with_reducible refine Below.alloc ?_ ?_ _) | (with_reducible refine Below.setCell ?_ ?_ _) | (with_reducible refine Below.trans ?_ (Below.mono (by assumption) ?_)) | (with_reducible exact Nat.le_refl _) | (with_reducible assumption) | omega | (simp; omega) | (simp; done)))⟩
theorem spec_DerivativePoly_no (q : Int) (v : Value) (l : List Int) (w : World) (hv : Sl w v l) (hl : l.length ≤ 1048576) (hg : (isSz q && good q l) = false) :
    Calls Try.prog 8 #[.int .i64 q, v] w fun e w' => e = .returned (.tuple #[.slice none 0 0, .bool false]) ∧ Below w.heap.size w w' := by
  have hp := plGood_any q v l w hv hl
  rw [hg] at hp
  have HP := Lib.hid hp
  clear hp hg hv hl
  go_enter Try.func8, Try.ntmps8
  go_wp2_with fail
  refine HP.out.mono ?_
  rintro e w1 ⟨rfl, hb1⟩
  have hz_hb1 := hb1.size; (try simp at hz_hb1)
  have HB1 := Lib.hid hb1; clear hb1
  go_wp2_with fail
  go_ret2
  have hb1 := HB1.out
  exact ⟨rfl, by (repeat' (first | (with_reducible assumption) | (with_reducible exact Below.refl _ _) | (with_reducible refine below_drewN ?_ _) | (with_reducible refine Below.drew ?_) | (with_reducible refine Below.alloc ?_ ?_ _) | (with_reducible refine Below.setCell ?_ ?_ _) | (with_reducible refine Below.trans ?_ (Below.mono (by assumption) ?_)) | (with_reducible exact Nat.le_refl _) | (with_reducible assumption) | omega | (simp; omega) | (simp; done)))⟩
theorem impl_DerivativePoly_no (q : Int) (v : Value) (l : List Int) (w : World) (hv : Sl w v l) (hl : l.length ≤ 1048576) (hg : (isSz q && good q l) = false) :
    Calls Try.prog 10 #[.int .i64 q, v] w fun e w' => e = .returned (.tuple #[.slice none 0 0, .bool false]) ∧ Below w.heap.size w w' := by
  have HP := Lib.hid (validPoly_no q v l w hv hl hg)
  clear hg hv hl
  go_enter Try.func10, Try.ntmps10
  go_wp2_with fail
  refine HP.out.mono ?_
  rintro e w1 ⟨rfl, hb1⟩
  have hz_hb1 := hb1.size; (try simp at hz_hb1)
  have HB1 := Lib.hid hb1; clear hb1
  go_wp2_with fail
  go_ret2
  have hb1 := HB1.out
  exact ⟨rfl, by (repeat' (first | (with_reducible assumption) | (with_reducible exact Below.refl _ _) | (with_reducible refine below_drewN ?_ _) | (with_reducible refine Below.drew ?_) | (with_reducible refine Below.alloc ?_ ?_ _) | (with_reducible refine Below.setCell ?_ ?_ _) | (with_reducible refine Below.trans ?_ (Below.mono (by assumption) ?_)) | (with_reducible exact Nat.le_refl _) | (with_reducible assumption) | omega | (simp; omega) | (simp; done)))⟩
theorem spec_DerivativePoly_yes (m : Nat) (v : Value) (l : List Int) (w : World) (h : isSz (m : Int) = true) (hv : Sl w v l) (hg : good (m : Int) l = true) :
    Calls Try.prog 8 #[.int .i64 m, v] w fun e w' => ∃ v', e = .returned (.tuple #[v', .bool true]) ∧ Row w' w.heap.size v' (drvL m l) ∧ Below w.heap.size w w' := by
  have hq := isSz_le (m : Int) h
  have hlen := (good_parts hg).1
  have hp := plGood_any (m : Int) v l w hv (by omega)
  rw [h, hg] at hp
  have HP := Lib.hid hp
  have HD := Lib.hid (fun w' (hb : Below w.heap.size w w') => ctDerivative_any m v l w' h (hv.below hb (Nat.le_refl _)) (pg_good h hg))
  clear hp hg hv h
  generalize drvL (m : Int) l = r at *
  go_enter Try.func8, Try.ntmps8
  go_wp2_with fail
  refine HP.out.mono ?_
  rintro e w1 ⟨rfl, hb1⟩
  have HB1 := Lib.hid hb1; clear hb1
  go_wp2_with fail
  refine (HD.out _ HB1.out).mono ?_
  rintro e w2 ⟨v2, rfl, hr2, hb2⟩
  have HR2 := Lib.hid hr2; clear hr2
  have HB2 := Lib.hid hb2; clear hb2
  go_wp2
  go_ret2
  have hb1 := HB1.out
  have hz1 := hb1.size
  have hb2 := HB2.out
  exact ⟨_, rfl, HR2.out.mono hz1, by (repeat' (first | (with_reducible assumption) | (with_reducible exact Below.refl _ _) | (with_reducible refine below_drewN ?_ _) | (with_reducible refine Below.drew ?_) | (with_reducible refine Below.alloc ?_ ?_ _) | (with_reducible refine Below.setCell ?_ ?_ _) | (with_reducible refine Below.trans ?_ (Below.mono (by assumption) ?_)) | (with_reducible exact Nat.le_refl _) | (with_reducible assumption) | omega | (simp; omega) | (simp; done)))⟩
theorem impl_DerivativePoly_yes (m : Nat) (v : Value) (l : List Int) (w : World) (h : isSz (m : Int) = true) (hv : Sl w v l) (hg : good (m : Int) l = true) :
    Calls Try.prog 10 #[.int .i64 m, v] w fun e w' => ∃ v', e = .returned (.tuple #[v', .bool true]) ∧ Row w' w.heap.size v' (drvL m l) ∧ Below w.heap.size w w' := by
  have hq := isSz_le (m : Int) h
  have hlen := (good_parts hg).1
  have hpg := pg_good h hg
  have HP := Lib.hid (validPoly_yes (m : Int) v l w h hv hg)
  have HD := Lib.hid (fun g w' (hg1 : g < w'.heap.size) (he : Els w' g (m : Int) (cfs l) l.length) => derivE m l.length g l.length (cfs l) w' h hg1 he hpg.el (by omega))
  have HN := Lib.hid (fun g cap w' (hg1 : g < w'.heap.size) (he : Els w' g (m : Int) (drv m (cfs l)) (sn (drv m (cfs l)) (l.length - 1))) => numbersE (m : Int) (.slice (some ⟨g, 0, none⟩) (sn (drv m (cfs l)) (l.length - 1)) cap) (drv m (cfs l)) (sn (drv m (cfs l)) (l.length - 1)) w' h ⟨g, cap, rfl, hg1, he⟩ (fun i _ => drv_el h hpg.el i) (by have := sn_le (drv m (cfs l)) (l.length - 1); omega))
  unfold drvL
  change Hid (Calls _ _ _ _ fun e w' => ∃ g, e = .returned (.tuple #[polyE (m : Int) (.slice (some ⟨g, 0, none⟩) l.length l.length), .bool true]) ∧ _ ∧ _ ∧ Els w' g (m : Int) (cfs l) l.length ∧ _) at HP
  clear h hg hv hpg
  generalize drv (m : Int) (cfs l) = F at *
  generalize sn F (l.length - 1) = K at *
  generalize cfs l = c at *
  generalize l.length = n at *
  go_enter Try.func10, Try.ntmps10
  go_wp2_with fail
  refine HP.out.mono ?_
  rintro e w1 ⟨g1, rfl, _, hk1, he1, hb1⟩
  have hgl := hk1.lt
  have HE1 := Lib.hid he1
  have HB1 := Lib.hid hb1; clear hb1 he1 hk1
  go_wp2_with fail
  refine (HD.out g1 _ (by simp; omega) (HE1.out.below (B := w1.heap.size) (by (repeat' (first | (with_reducible assumption) | (with_reducible exact Below.refl _ _) | (with_reducible refine below_drewN ?_ _) | (with_reducible refine Below.drew ?_) | (with_reducible refine Below.alloc ?_ ?_ _) | (with_reducible refine Below.setCell ?_ ?_ _) | (with_reducible refine Below.trans ?_ (Below.mono (by assumption) ?_)) | (with_reducible exact Nat.le_refl _) | (with_reducible assumption) | omega | (simp; omega) | (simp; done)))) hgl)).mono ?_
  rintro e w2 ⟨g2, cp2, rfl, hlo2, hg2, he2, hb2⟩
  have HE2 := Lib.hid he2
  have HB2 := Lib.hid hb2; clear hb2 he2
  go_wp2_with fail
  refine (HN.out g2 cp2 _ hg2 HE2.out).mono ?_
  rintro e w3 ⟨v3, rfl, hr3, hb3⟩
  have HR3 := Lib.hid hr3
  have HB3 := Lib.hid hb3; clear hb3 hr3
  go_wp2
  go_ret2
  have hb1 := HB1.out
  have hz1 := hb1.size
  have hb2 := HB2.out
  have hz2 := hb2.size
  simp at hz2
  have hb3 := HB3.out
  exact ⟨_, rfl, HR3.out.mono (by omega), by (repeat' (first | (with_reducible assumption) | (with_reducible exact Below.refl _ _) | (with_reducible refine below_drewN ?_ _) | (with_reducible refine Below.drew ?_) | (with_reducible refine Below.alloc ?_ ?_ _) | (with_reducible refine Below.setCell ?_ ?_ _) | (with_reducible refine Below.trans ?_ (Below.mono (by assumption) ?_)) | (with_reducible exact Nat.le_refl _) | (with_reducible assumption) | omega | (simp; omega) | (simp; done)))⟩
theorem key_DerivativePoly (q : Int) (l_f : List Int) (b_f : l_f.length ≤ 1048576) : ∃ (r : List Int) (o : Bool), r.length ≤ 1048576 ∧ (∀ (w : World) (v_f : Value) (_ : Sl w v_f l_f), Calls Try.prog 8 #[.int .i64 q, v_f] w fun e w' => ∃ v, e = .returned (.tuple #[v, .bool o]) ∧ Row w' w.heap.size v r ∧ Below w.heap.size w w') ∧
      (∀ (w : World) (v_f : Value) (_ : Sl w v_f l_f), Calls Try.prog 10 #[.int .i64 q, v_f] w fun e w' => ∃ v, e = .returned (.tuple #[v, .bool o]) ∧ Row w' w.heap.size v r ∧ Below w.heap.size w w') := by
  cases h : isSz q && good q l_f with
  | false => exact ⟨[], false, by simp, fun w v hv => (spec_DerivativePoly_no q v l_f w hv b_f h).mono fun _ _ ⟨he, hb⟩ => ⟨_, he, Row.nil _ _, hb⟩, fun w v hv => (impl_DerivativePoly_no q v l_f w hv b_f h).mono fun _ _ ⟨he, hb⟩ => ⟨_, he, Row.nil _ _, hb⟩⟩
  | true =>
    simp only [Bool.and_eq_true] at h
    have hq := isSz_le q h.1
    obtain ⟨m, rfl⟩ := Int.eq_ofNat_of_zero_le (show 0 ≤ q by omega)
    exact ⟨_, true, by have := (drvL_pg h.1 (pg_good h.1 h.2)).2; omega, fun w v hv => spec_DerivativePoly_yes m v l_f w h.1 hv h.2, fun w v hv => impl_DerivativePoly_yes m v l_f w h.1 hv h.2⟩
set_option maxRecDepth 100000 in
set_option maxHeartbeats 4000000 in
/-- laws.FnExactDerivativePoly. -/
theorem walk_FnExactDerivativePoly (q : Int) (a_f : Option Addr) (n_f c_f : Nat) (z_f : List Int) (w : World) (_h_q : (Lit.int .i64 q).wf = true) (h_f : IsRow .i64 w a_f n_f c_f z_f) :
    Calls Try.prog 3 #[.int .i64 q, .slice a_f n_f c_f] w fun e w' => e = .returned (.bool true) ∧ Below w.heap.size w w' := by
  clear _h_q
  obtain ⟨hs_f, hl_f, _⟩ := h_f.sl
  generalize z_f.take n_f = l_f at *
  clear h_f
  subst hl_f
  by_cases b_f : l_f.length ≤ 1048576
  rotate_left
  · have hn_f : (1048576 : Int) < (l_f.length : Int) := by omega
    go_enter Try.func3, Try.ntmps3
    go_wp2
    go_ret
    exact ⟨rfl, Below.refl _ _⟩
  have hn_f : ¬ (1048576 : Int) < (l_f.length : Int) := by omega
  obtain ⟨r, o, hr, k1, k2⟩ := key_DerivativePoly q l_f b_f
  have K1 := Lib.hid k1; clear k1
  have K2 := Lib.hid k2; clear k2
  have HS_f := Lib.hid hs_f; clear hs_f
  have HB0 : Hid (Below w.heap.size w w) := Lib.hid (Below.refl _ _)
  go_enter Try.func3, Try.ntmps3
  go_wp2_with fail
  refine (toIntS_any _ l_f _ (HS_f.out.below HB0.out (Nat.le_refl _)) b_f).mono ?_
  rintro e w1 ⟨v_s_f, rfl, hrw1, hbw1⟩
  have hzw1 : w.heap.size ≤ w1.heap.size := hbw1.size
  have HBw1 : Hid (Below w.heap.size w w1) := Lib.hid (HB0.out.trans (hbw1.mono HB0.out.size))
  have hww1 := HBw1.out.size
  clear hbw1 HB0
  have R_s_f_w1 := Lib.hid hrw1; clear hrw1
  have lt_s_f : Hid (∀ g, v_s_f.ownBlock = some g → w.heap.size ≤ g ∧ g < w1.heap.size) := Lib.hid R_s_f_w1.out.lt
  go_wp2_with fail
  refine (K1.out _ v_s_f R_s_f_w1.out.sl).mono ?_
  rintro e w2 ⟨v_sp, rfl, hrw2, hbw2⟩
  have hzw2 : w1.heap.size ≤ w2.heap.size := hbw2.size
  have R_s_f_w2 := Lib.hid (R_s_f_w1.out.below hbw2)
  clear R_s_f_w1
  have HBw2 : Hid (Below w.heap.size w w2) := Lib.hid (HBw1.out.trans (hbw2.mono HBw1.out.size))
  have hww2 := HBw2.out.size
  clear hbw2 HBw1
  have R_sp_w2 := Lib.hid hrw2; clear hrw2
  have lt_sp : Hid (∀ g, v_sp.ownBlock = some g → w1.heap.size ≤ g ∧ g < w2.heap.size) := Lib.hid R_sp_w2.out.lt
  clear R_s_f_w2 lt_s_f
  go_wp2_with fail
  refine (toIntS_any _ l_f _ (HS_f.out.below HBw2.out (Nat.le_refl _)) b_f).mono ?_
  rintro e w3 ⟨v_x_f, rfl, hrw3, hbw3⟩
  have hzw3 : w2.heap.size ≤ w3.heap.size := hbw3.size
  have R_sp_w3 := Lib.hid (R_sp_w2.out.below hbw3)
  clear R_sp_w2
  have HBw3 : Hid (Below w.heap.size w w3) := Lib.hid (HBw2.out.trans (hbw3.mono HBw2.out.size))
  have hww3 := HBw3.out.size
  clear hbw3 HBw2
  have R_x_f_w3 := Lib.hid hrw3; clear hrw3
  have lt_x_f : Hid (∀ g, v_x_f.ownBlock = some g → w2.heap.size ≤ g ∧ g < w3.heap.size) := Lib.hid R_x_f_w3.out.lt
  go_wp2_with fail
  refine (K2.out _ v_x_f R_x_f_w3.out.sl).mono ?_
  rintro e w4 ⟨v_im, rfl, hrw4, hbw4⟩
  have hzw4 : w3.heap.size ≤ w4.heap.size := hbw4.size
  have R_sp_w4 := Lib.hid (R_sp_w3.out.below hbw4)
  clear R_sp_w3
  have R_x_f_w4 := Lib.hid (R_x_f_w3.out.below hbw4)
  clear R_x_f_w3
  have HBw4 : Hid (Below w.heap.size w w4) := Lib.hid (HBw3.out.trans (hbw4.mono HBw3.out.size))
  have hww4 := HBw4.out.size
  clear hbw4 HBw3
  have R_im_w4 := Lib.hid hrw4; clear hrw4
  have lt_im : Hid (∀ g, v_im.ownBlock = some g → w3.heap.size ≤ g ∧ g < w4.heap.size) := Lib.hid R_im_w4.out.lt
  go_wp2_with fail
  refine (eq_same v_im v_sp r _ _ _ R_im_w4.out R_sp_w4.out (by omega)).mono ?_
  rintro e w5 ⟨rfl, hbw5⟩
  have hzw5 : w4.heap.size ≤ w5.heap.size := hbw5.size
  have R_sp_w5 := Lib.hid (R_sp_w4.out.below hbw5)
  clear R_sp_w4
  have R_x_f_w5 := Lib.hid (R_x_f_w4.out.below hbw5)
  clear R_x_f_w4
  have R_im_w5 := Lib.hid (R_im_w4.out.below hbw5)
  clear R_im_w4
  have HBw5 : Hid (Below w.heap.size w w5) := Lib.hid (HBw4.out.trans (hbw5.mono HBw4.out.size))
  have hww5 := HBw5.out.size
  clear hbw5 HBw4
  go_wp2_with fail
  refine (toIntS_any _ l_f _ (HS_f.out.below HBw5.out (Nat.le_refl _)) b_f).mono ?_
  rintro e w6 ⟨v_y_f, rfl, hrw6, hbw6⟩
  have hzw6 : w5.heap.size ≤ w6.heap.size := hbw6.size
  have R_sp_w6 := Lib.hid (R_sp_w5.out.below hbw6)
  clear R_sp_w5
  have R_x_f_w6 := Lib.hid (R_x_f_w5.out.below hbw6)
  clear R_x_f_w5
  have R_im_w6 := Lib.hid (R_im_w5.out.below hbw6)
  clear R_im_w5
  have HBw6 : Hid (Below w.heap.size w w6) := Lib.hid (HBw5.out.trans (hbw6.mono HBw5.out.size))
  have hww6 := HBw6.out.size
  clear hbw6 HBw5
  have R_y_f_w6 := Lib.hid hrw6; clear hrw6
  have lt_y_f : Hid (∀ g, v_y_f.ownBlock = some g → w5.heap.size ≤ g ∧ g < w6.heap.size) := Lib.hid R_y_f_w6.out.lt
  go_wp2_with fail
  refine (eq_same v_x_f v_y_f l_f _ _ _ R_x_f_w6.out R_y_f_w6.out (by omega)).mono ?_
  rintro e w7 ⟨rfl, hbw7⟩
  have hzw7 : w6.heap.size ≤ w7.heap.size := hbw7.size
  have R_sp_w7 := Lib.hid (R_sp_w6.out.below hbw7)
  clear R_sp_w6
  have R_x_f_w7 := Lib.hid (R_x_f_w6.out.below hbw7)
  clear R_x_f_w6
  have R_im_w7 := Lib.hid (R_im_w6.out.below hbw7)
  clear R_im_w6
  have R_y_f_w7 := Lib.hid (R_y_f_w6.out.below hbw7)
  clear R_y_f_w6
  have HBw7 : Hid (Below w.heap.size w w7) := Lib.hid (HBw6.out.trans (hbw7.mono HBw6.out.size))
  have hww7 := HBw7.out.size
  clear hbw7 HBw6
  clear R_y_f_w7 lt_y_f
  go_wp2_with fail
  refine (mark_any v_x_f l_f _ (1) _ R_x_f_w7.out (by omega) (by omega) (by omega)).mono ?_
  rintro e w8 ⟨rfl, hrw8, hgw8⟩
  have hzw8 : w7.heap.size ≤ w8.heap.size := hgw8.size
  have R_sp_w8 := Lib.hid (R_sp_w7.out.keep (w' := w8) fun g hg => hgw8.block g (R_sp_w7.out.lt g hg).2 fun e => by have h1 := lt_sp.out g hg; have h2 := lt_x_f.out g e.symm; omega)
  clear R_sp_w7
  have R_im_w8 := Lib.hid (R_im_w7.out.keep (w' := w8) fun g hg => hgw8.block g (R_im_w7.out.lt g hg).2 fun e => by have h1 := lt_im.out g hg; have h2 := lt_x_f.out g e.symm; omega)
  clear R_im_w7
  have HBw8 : Hid (Below w.heap.size w w8) := Lib.hid (Below.grown HBw7.out hgw8 (by omega) (fun g e => by have h2 := lt_x_f.out g e; omega))
  have hww8 := HBw8.out.size
  have R_x_f_w8 := Lib.hid hrw8
  clear hrw8 hgw8 HBw7 R_x_f_w7
  clear R_x_f_w8 lt_x_f
  have hpos : ¬ (1 + (l_f.length : Int)) < (0 : Int) := by omega
  go_wp2_with fail
  refine (eq_same v_im v_sp r _ _ _ R_im_w8.out R_sp_w8.out (by omega)).mono ?_
  rintro e w9 ⟨rfl, hbw9⟩
  have hzw9 : w8.heap.size ≤ w9.heap.size := hbw9.size
  have R_sp_w9 := Lib.hid (R_sp_w8.out.below hbw9)
  clear R_sp_w8
  have R_im_w9 := Lib.hid (R_im_w8.out.below hbw9)
  clear R_im_w8
  have HBw9 : Hid (Below w.heap.size w w9) := Lib.hid (HBw8.out.trans (hbw9.mono HBw8.out.size))
  have hww9 := HBw9.out.size
  clear hbw9 HBw8
  go_wp2_with fail
  refine (mark_any v_im r _ (1) _ R_im_w9.out (by omega) (by omega) (by omega)).mono ?_
  rintro e w10 ⟨rfl, hrw10, hgw10⟩
  have hzw10 : w9.heap.size ≤ w10.heap.size := hgw10.size
  have R_sp_w10 := Lib.hid (R_sp_w9.out.keep (w' := w10) fun g hg => hgw10.block g (R_sp_w9.out.lt g hg).2 fun e => by have h1 := lt_sp.out g hg; have h2 := lt_im.out g e.symm; omega)
  clear R_sp_w9
  have HBw10 : Hid (Below w.heap.size w w10) := Lib.hid (Below.grown HBw9.out hgw10 (by omega) (fun g e => by have h2 := lt_im.out g e; omega))
  have hww10 := HBw10.out.size
  have R_im_w10 := Lib.hid hrw10
  clear hrw10 hgw10 HBw9 R_im_w9
  go_wp2_with fail
  refine (held_any v_im r.length _ (1) _ R_im_w10.out (by omega) (by omega) (by omega)).mono ?_
  rintro e wx1 ⟨rfl, rfl⟩
  go_wp2_with fail
  refine (toIntS_any _ l_f _ (HS_f.out.below HBw10.out (Nat.le_refl _)) b_f).mono ?_
  rintro e w11 ⟨v_t_f, rfl, hrw11, hbw11⟩
  have hzw11 : w10.heap.size ≤ w11.heap.size := hbw11.size
  have R_sp_w11 := Lib.hid (R_sp_w10.out.below hbw11)
  clear R_sp_w10
  have R_im_w11 := Lib.hid (R_im_w10.out.below hbw11)
  clear R_im_w10
  have HBw11 : Hid (Below w.heap.size w w11) := Lib.hid (HBw10.out.trans (hbw11.mono HBw10.out.size))
  have hww11 := HBw11.out.size
  clear hbw11 HBw10
  have R_t_f_w11 := Lib.hid hrw11; clear hrw11
  have lt_t_f : Hid (∀ g, v_t_f.ownBlock = some g → w10.heap.size ≤ g ∧ g < w11.heap.size) := Lib.hid R_t_f_w11.out.lt
  go_wp2_with fail
  refine (K2.out _ v_t_f R_t_f_w11.out.sl).mono ?_
  rintro e w12 ⟨v_im2, rfl, hrw12, hbw12⟩
  have hzw12 : w11.heap.size ≤ w12.heap.size := hbw12.size
  have R_sp_w12 := Lib.hid (R_sp_w11.out.below hbw12)
  clear R_sp_w11
  have R_im_w12 := Lib.hid (R_im_w11.out.below hbw12)
  clear R_im_w11
  have R_t_f_w12 := Lib.hid (R_t_f_w11.out.below hbw12)
  clear R_t_f_w11
  have HBw12 : Hid (Below w.heap.size w w12) := Lib.hid (HBw11.out.trans (hbw12.mono HBw11.out.size))
  have hww12 := HBw12.out.size
  clear hbw12 HBw11
  have R_im2_w12 := Lib.hid hrw12; clear hrw12
  have lt_im2 : Hid (∀ g, v_im2.ownBlock = some g → w11.heap.size ≤ g ∧ g < w12.heap.size) := Lib.hid R_im2_w12.out.lt
  clear R_t_f_w12 lt_t_f
  go_wp2_with fail
  refine (eq_same v_im2 v_sp r _ _ _ R_im2_w12.out R_sp_w12.out (by omega)).mono ?_
  rintro e w13 ⟨rfl, hbw13⟩
  have hzw13 : w12.heap.size ≤ w13.heap.size := hbw13.size
  have R_sp_w13 := Lib.hid (R_sp_w12.out.below hbw13)
  clear R_sp_w12
  have R_im_w13 := Lib.hid (R_im_w12.out.below hbw13)
  clear R_im_w12
  have R_im2_w13 := Lib.hid (R_im2_w12.out.below hbw13)
  clear R_im2_w12
  have HBw13 : Hid (Below w.heap.size w w13) := Lib.hid (HBw12.out.trans (hbw13.mono HBw12.out.size))
  have hww13 := HBw13.out.size
  clear hbw13 HBw12
  go_wp2_with fail
  refine (held_any v_im r.length _ (1) _ R_im_w13.out (by omega) (by omega) (by omega)).mono ?_
  rintro e wx2 ⟨rfl, rfl⟩
  go_wp2
  go_ret
  exact ⟨rfl, HBw13.out⟩
end Go.Proofs.Ytlhcokblbkiafab
