/- The draws of the law of sums by formulas, by contracts: some numbers. -/
import Derived.Test.YtpjlolnnbbgikaaDR
import Derived.Test.YtpjlolnnbbgikaaTB
namespace Go.Proofs.Ytpjlolnnbbgikaa
open Go.RowKit
theorem results_tmp4U {fn : Func} {t u v x : Tmp} (h : fn.results = #[.tmp t, .tmp u, .tmp v, .tmp x]) (tmps : Array Value) (P : Program) (w : World) :
    (results fn tmps).run P w = .ok (.tuple #[tmps.getD t undef, tmps.getD u undef, tmps.getD v undef, tmps.getD x undef]) w := by
  simp [results, h]
theorem Cu.lt {w : World} {cb : Nat} {a : Option Addr} {n c k : Nat} (h : Cu w cb a n c k) : cb < w.heap.size := by obtain ⟨_, ⟨_, _, hc, _⟩, _⟩ := h; exact (Array.getElem?_eq_some_iff.1 hc).1
theorem Cu.allocs {w : World} {cb : Nat} {a : Option Addr} {n c k : Nat} (h : Cu w cb a n c k) (o : Obj) : Kp cb w (w.alloc o) := Kp.below (Below.alloc (Below.refl _ _) (Nat.le_refl _) _) (by have := h.lt; omega)
/-- spec.l1Cur.among, of a list made on the spot. -/
theorem among_new (cb : Nat) (a : Option Addr) (n c k len : Nat) (l : List Int) (w : World) (h : Cu w cb a n c k) (hk : k ≤ 900) (hl : l.length = len) (h0 : 1 ≤ len) (h1 : len ≤ 1000) (o : Obj) (ho : o = Obj.cells ((l.map (Value.int .i64)).toArray) 3 (0, 0)) :
    Calls Try.prog 53 #[.pointer (some ⟨cb, 0, none⟩), .slice (some ⟨w.heap.size, 0, none⟩) len len] (w.alloc o) fun e w' => ∃ r : Int, e = .returned (.int .i64 r) ∧ Cu w' cb a n c (k + 2) ∧ Kp cb w w' := by
  refine (among_any cb w.heap.size a n c k len len l 3 (w.alloc o) (h.kp (Below.alloc (Below.refl _ _) (Nat.le_refl _) _)) (by omega) (by rw [heap_alloc_new, ho]) (by have := h.lt; omega) hl h0 h1).mono ?_
  rintro e w' ⟨i, _, rfl, hc, hk⟩
  exact ⟨_, rfl, hc, (h.allocs o).trans hk⟩
set_option maxHeartbeats 2000000 in
/-- spec.l1Cur.odd. -/
theorem odd_any (cb : Nat) (a : Option Addr) (n c k : Nat) (w : World) (h : Cu w cb a n c k) (hk : k ≤ 800) :
    Calls Try.prog 22 #[.pointer (some ⟨cb, 0, none⟩)] w fun e w' => ∃ r : Int, e = .returned (.int .i64 r) ∧ Cu w' cb a n c (k + 6) ∧ Kp cb w w' := by
  have HO := Lib.hid (one_any cb a n c k 8 w h (by omega))
  have HS := Lib.hid (fun w (h : Cu w cb a n c (k + 2)) => size_any cb a n c (k + 2) w h (by omega))
  have HA := Lib.hid (fun o w (h : Cu w cb a n c (k + 2)) => among_new cb a n c (k + 2) 6 [3, 5, 7, 9, 11, 13] w h (by omega) rfl (by omega) (by omega) o)
  clear h
  go_enter Try.func22, Try.ntmps22
  go_wp2_with fail
  refine HO.out.mono ?_
  rintro e w1 ⟨b, rfl, hc1, hk1⟩
  have HC1 := Lib.hid hc1
  have HK1 := Lib.hid hk1
  clear hc1 hk1
  cases b
  · go_wp2_with fail
    refine (HA.out _ _ HC1.out rfl).mono ?_
    rintro e w2 ⟨r, rfl, hc2, hk2⟩
    have HC2 := Lib.hid hc2
    have HK2 := Lib.hid hk2
    clear hc2 hk2
    go_wp2
    go_ret
    exact ⟨_, rfl, HC2.out.mono (by omega), HK1.out.trans HK2.out⟩
  · go_wp2_with fail
    refine (HS.out _ HC1.out).mono ?_
    rintro e w2 ⟨r, rfl, hc2, hk2⟩
    have HC2 := Lib.hid hc2
    have HK2 := Lib.hid hk2
    clear hc2 hk2
    go_wp2
    go_ret
    exact ⟨_, rfl, HC2.out, HK1.out.trans HK2.out⟩
set_option maxHeartbeats 2000000 in
/-- spec.DrawCharacterOf. -/
theorem drawCharacterOf_any (a : Option Addr) (n c : Nat) (w : World) (h : Bys w a n) :
    Calls Try.prog 42 #[.slice a n c] w fun e w' => ∃ q x : Int, e = .returned (.tuple #[.int .i64 q, .int .i64 x]) ∧ Below w.heap.size w w' := by
  have HS := Lib.hid (odd_any w.heap.size a n c 0 _ (h.cur c) (by omega))
  have HE := Lib.hid (fun k q w' (hc : Cu w' w.heap.size a n c k) (hk : k ≤ 800) => elem_any w.heap.size a n c k q w' hc (by omega))
  clear h
  go_enter Try.func42, Try.ntmps42
  go_wp2_with fail
  refine (HS.out).mono ?_
  rintro e w1 ⟨q, rfl, hc1, hk1⟩
  have HC1 := Lib.hid hc1
  have HK1 := Lib.hid hk1
  clear hk1 hc1
  go_wp2_with fail
  refine (HE.out _ q _ HC1.out (by omega)).mono ?_
  rintro e w2 ⟨x, rfl, hc2, hk2⟩
  have HC2 := Lib.hid hc2
  have HK2 := Lib.hid (HK1.out.trans hk2)
  clear hk2 hc2
  go_wp2
  go_ret2
  exact ⟨q, x, rfl, HK2.out.start⟩
set_option maxHeartbeats 2000000 in
/-- spec.DrawCountSquareSums. -/
theorem drawCountSquareSums_any (a : Option Addr) (n c : Nat) (w : World) (h : Bys w a n) :
    Calls Try.prog 10 #[.slice a n c] w fun e w' => ∃ q x : Int, e = .returned (.tuple #[.int .i64 q, .int .i64 x]) ∧ Below w.heap.size w w' := by
  have HS := Lib.hid (drawCharacterOf_any a n c w h)
  clear h
  go_enter Try.func10, Try.ntmps10
  go_wp2_with fail
  refine HS.out.mono ?_
  rintro e w1 ⟨q, x, rfl, hb1⟩
  go_wp2
  go_ret2
  exact ⟨q, x, rfl, hb1⟩
set_option maxHeartbeats 2000000 in
/-- spec.DrawCountRuns. -/
theorem drawCountRuns_any (a : Option Addr) (n c : Nat) (w : World) (h : Bys w a n) :
    Calls Try.prog 17 #[.slice a n c] w fun e w' => ∃ q i j : Int, e = .returned (.tuple #[.int .i64 q, .int .i64 i, .int .i64 j]) ∧ Below w.heap.size w w' := by
  have HS := Lib.hid (odd_any w.heap.size a n c 0 _ (h.cur c) (by omega))
  have HE := Lib.hid (fun k q w' (hc : Cu w' w.heap.size a n c k) (hk : k ≤ 800) => elem_any w.heap.size a n c k q w' hc (by omega))
  have HA := Lib.hid (fun k l w' (hc : Cu w' w.heap.size a n c k) (hk : k ≤ 800) (hl : l.length = 5) o => among_new w.heap.size a n c k 5 l w' hc (by omega) hl (by omega) (by omega) o)
  clear h
  go_enter Try.func17, Try.ntmps17
  go_wp2_with fail
  refine (HS.out).mono ?_
  rintro e w1 ⟨q, rfl, hc1, hk1⟩
  have HC1 := Lib.hid hc1
  have HK1 := Lib.hid hk1
  clear hk1 hc1
  go_wp2_with fail
  refine (HA.out _ [1, -1, 1, -1, 0] _ HC1.out (by omega) rfl _ rfl).mono ?_
  rintro e w2 ⟨i, rfl, hc2, hk2⟩
  have HC2 := Lib.hid hc2
  have HK2 := Lib.hid (HK1.out.trans hk2)
  clear hk2 hc2
  go_wp2_with fail
  refine (HA.out _ [1, -1, 1, -1, 2] _ HC2.out (by omega) rfl _ rfl).mono ?_
  rintro e w3 ⟨j, rfl, hc3, hk3⟩
  have HC3 := Lib.hid hc3
  have HK3 := Lib.hid (HK2.out.trans hk3)
  clear hk3 hc3
  go_wp2
  go_ret3
  exact ⟨q, i, j, rfl, HK3.out.start⟩
set_option maxHeartbeats 2000000 in
/-- spec.DrawQuadraticSum. -/
theorem drawQuadraticSum_any (a : Option Addr) (n c : Nat) (w : World) (h : Bys w a n) :
    Calls Try.prog 5 #[.slice a n c] w fun e w' => ∃ q x y d : Int, e = .returned (.tuple #[.int .i64 q, .int .i64 x, .int .i64 y, .int .i64 d]) ∧ Below w.heap.size w w' := by
  have HS := Lib.hid (odd_any w.heap.size a n c 0 _ (h.cur c) (by omega))
  have HE := Lib.hid (fun k q w' (hc : Cu w' w.heap.size a n c k) (hk : k ≤ 800) => elem_any w.heap.size a n c k q w' hc (by omega))
  have HO := Lib.hid (fun k m w' (hc : Cu w' w.heap.size a n c k) (hk : k ≤ 800) => one_any w.heap.size a n c k m w' hc (by omega))
  have HCO := Lib.hid (fun q w => ctOdd_any q w)
  have HIN := Lib.hid (fun q a w => fdIn_any q a w)
  clear h
  go_enter Try.func5, Try.ntmps5
  go_wp2_with fail
  refine (HS.out).mono ?_
  rintro e w1 ⟨q, rfl, hc1, hk1⟩
  have HC1 := Lib.hid hc1
  have HK1 := Lib.hid hk1
  clear hk1 hc1
  go_wp2_with fail
  refine (HE.out _ q _ HC1.out (by omega)).mono ?_
  rintro e w2 ⟨x, rfl, hc2, hk2⟩
  have HC2 := Lib.hid hc2
  have HK2 := Lib.hid (HK1.out.trans hk2)
  clear hk2 hc2
  go_wp2_with fail
  refine (HE.out _ q _ HC2.out (by omega)).mono ?_
  rintro e w3 ⟨y, rfl, hc3, hk3⟩
  have HC3 := Lib.hid hc3
  have HK3 := Lib.hid (HK2.out.trans hk3)
  clear hk3 hc3
  go_wp2_with fail
  refine (HE.out _ q _ HC3.out (by omega)).mono ?_
  rintro e w4 ⟨d, rfl, hc4, hk4⟩
  have HC4 := Lib.hid hc4
  have HK4 := Lib.hid (HK3.out.trans hk4)
  clear hk4 hc4
  go_wp2_with fail
  refine (HCO.out q _).mono ?_
  rintro e w5 ⟨rfl, hb5⟩
  have HB5 : Hid (Below w.heap.size w w5) := Lib.hid (HK4.out.start.trans (hb5.mono HK4.out.start.size))
  have HC5 := Lib.hid (HC4.out.kp hb5)
  clear hb5 HC4 HC3 HC2 HC1 HK1 HK2 HK3
  cases ho : odq q with
  | false =>
    go_wp2
    (try simp only [Exit.inBlock, Exit.then])
    refine bodyPost_ret (results_tmp4U rfl _ _ _) rfl ?_
    exact ⟨_, _, _, _, rfl, HB5.out⟩
  | true =>
    go_wp2_with fail
    refine (HIN.out q x _).mono ?_
    rintro e w6 ⟨rfl, hb6⟩
    have HB6 : Hid (Below w.heap.size w w6) := Lib.hid (HB5.out.trans (hb6.mono HB5.out.size))
    have HC6 := Lib.hid (HC5.out.kp hb6)
    clear hb6 HC5 HB5
    cases hx : inE q x with
    | false =>
      go_wp2
      (try simp only [Exit.inBlock, Exit.then])
      refine bodyPost_ret (results_tmp4U rfl _ _ _) rfl ?_
      exact ⟨_, _, _, _, rfl, HB6.out⟩
    | true =>
      go_wp2_with fail
      refine (HIN.out q y _).mono ?_
      rintro e w7 ⟨rfl, hb7⟩
      have HB7 : Hid (Below w.heap.size w w7) := Lib.hid (HB6.out.trans (hb7.mono HB6.out.size))
      have HC7 := Lib.hid (HC6.out.kp hb7)
      clear hb7 HC6 HB6
      cases hy : inE q y with
      | false =>
        go_wp2
        (try simp only [Exit.inBlock, Exit.then])
        refine bodyPost_ret (results_tmp4U rfl _ _ _) rfl ?_
        exact ⟨_, _, _, _, rfl, HB7.out⟩
      | true =>
        obtain ⟨hs, x0, x1⟩ := inE_yes hx
        obtain ⟨_, y0, y1⟩ := inE_yes hy
        have eX : El q x := ⟨x0, x1⟩
        have eY : El q y := ⟨y0, y1⟩
        have eS := eX.add hs eX
        have eI : El q (invF q (addF q x x)) := invF_bd q _ hs eS.1 eS.2
        have eH := eY.mul hs eI
        have eQ := eH.mul hs eH
        have HP := Lib.hid (fun w => fdPlus_any q x x w hs eX.1 eX.2 eX.1 eX.2)
        have HI := Lib.hid (fun w => fdInverse_any q _ w hs eS.1 eS.2)
        have HT1 := Lib.hid (fun w => fdTimes_any q _ _ w hs eY.1 eY.2 eI.1 eI.2)
        have HT2 := Lib.hid (fun w => fdTimes_any q _ _ w hs eH.1 eH.2 eH.1 eH.2)
        have HT3 := Lib.hid (fun w => fdTimes_any q _ _ w hs eX.1 eX.2 eQ.1 eQ.2)
        clear hx hy ho hs x0 x1 y0 y1 eX eY eS eI eH eQ
        by_cases hz : x = 0
        · skip
          go_wp2
          (try simp only [Exit.inBlock, Exit.then])
          refine bodyPost_ret (results_tmp4U rfl _ _ _) rfl ?_
          exact ⟨_, _, _, _, rfl, HB7.out⟩
        · go_wp2_with fail
          refine (HO.out _ 3 _ HC7.out (by omega)).mono ?_
          rintro e w8 ⟨o, rfl, hc8, hk8⟩
          have HB8 : Hid (Below w.heap.size w w8) := Lib.hid (HB7.out.trans hk8.1)
          clear hc8 hk8 HC7
          cases o with
          | false =>
            go_wp2
            (try simp only [Exit.inBlock, Exit.then])
            refine bodyPost_ret (results_tmp4U rfl _ _ _) rfl ?_
            exact ⟨_, _, _, _, rfl, HB8.out⟩
          | true =>
            go_wp2_with fail
            refine (HP.out _).mono ?_
            rintro e u9 ⟨rfl, hb9⟩
            have HB9 : Hid (Below w.heap.size w u9) := Lib.hid (HB8.out.trans (hb9.mono HB8.out.size)); clear hb9
            go_wp2_with fail
            refine (HI.out _).mono ?_
            rintro e u10 ⟨rfl, hb10⟩
            have HB10 : Hid (Below w.heap.size w u10) := Lib.hid (HB9.out.trans (hb10.mono HB9.out.size)); clear hb10
            go_wp2_with fail
            refine (HT1.out _).mono ?_
            rintro e u11 ⟨rfl, hb11⟩
            have HB11 : Hid (Below w.heap.size w u11) := Lib.hid (HB10.out.trans (hb11.mono HB10.out.size)); clear hb11
            go_wp2_with fail
            refine (HT2.out _).mono ?_
            rintro e u12 ⟨rfl, hb12⟩
            have HB12 : Hid (Below w.heap.size w u12) := Lib.hid (HB11.out.trans (hb12.mono HB11.out.size)); clear hb12
            go_wp2_with fail
            refine (HT3.out _).mono ?_
            rintro e u13 ⟨rfl, hb13⟩
            have HB13 : Hid (Below w.heap.size w u13) := Lib.hid (HB12.out.trans (hb13.mono HB12.out.size)); clear hb13
            go_wp2
            (try simp only [Exit.inBlock, Exit.then])
            refine bodyPost_ret (results_tmp4U rfl _ _ _) rfl ?_
            exact ⟨_, _, _, _, rfl, HB13.out⟩
end Go.Proofs.Ytpjlolnnbbgikaa
