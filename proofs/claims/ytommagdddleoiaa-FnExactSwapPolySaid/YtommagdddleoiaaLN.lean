/- spec.peOf by a contract; the polynomials of a swap and of a cycle, of the model. -/
import Derived.Test.YtommagdddleoiaaLJ
import Derived.Test.YtommagdddleoiaaLI
namespace Go.Proofs.Ytommagdddleoiaa
open Go.RowKit
set_option maxHeartbeats 4000000 in
set_option maxRecDepth 100000 in
/-- spec.peOf. -/
theorem peOf_any (m : Nat) (v : Value) (l : List Int) (w : World) (h : isSz (m : Int) = true) (hv : Sl w v l) (hl : ∀ i, i < l.length → El (m : Int) (l.getD i 0)) (hlen : l.length ≤ m) :
    Calls Try.prog 67 #[.int .i64 m, v] w fun e w' => ∃ v', e = .returned v' ∧ Row w' w.heap.size v' (ftl m (cyT l l.length)) ∧ Below w.heap.size w w' := by
  obtain ⟨i0, hi, iz0, iz1, iz2⟩ := info_parts Try.infoI
  have hq := isSz_le (m : Int) h
  have HPF := Lib.hid (fun v w' (hs : Sl w' v (fl (cyT l l.length) m)) => plFromT m v (cyT l l.length) w' h hs (cyT_el hl _ (Nat.le_refl _)))
  have HSTEP : Hid (∀ k, cyT l (k + 1) = upd (cyT l k) (l.getD k 0).toNat (l.getD ((k + 1) % l.length) 0)) := Lib.hid fun _ => rfl
  have H0 : Hid (fl (cyT l 0) m = fl (fun i => (i : Int)) m) := Lib.hid rfl
  have HL := Lib.hid hl
  have HOP : Hid (0 < l.length → ∃ b off cap, v = .slice (some ⟨b, off, none⟩) l.length cap ∧ b < w.heap.size ∧ ∀ j, j < l.length → w.cell? ⟨b, off + j, none⟩ = some (.int .i64 (l.getD j 0))) := Lib.hid fun h0 => hv.open rfl h0
  obtain ⟨a, cap, rfl⟩ := hv.form
  clear hv h hl
  generalize cyT l = C at *
  generalize ftl m (C l.length) = r at *
  generalize hn : l.length = n at *
  clear hn
  go_enter Try.func67, Try.ntmps67
  go_wp2_with fail
  go_loopw [5, 6] (fun vo vi wr => ∃ k : Nat, k ≤ m ∧ vi = .int .i64 k ∧ Row wr w.heap.size vo (fl (fun i => (i : Int)) k) ∧ Below w.heap.size w wr) (fun _ vi _ => m - (intOf vi).toNat)
  case atStart => exact ⟨0, Nat.zero_le _, rfl, Row.nil _ _, Below.refl _ _⟩
  case round =>
    obtain ⟨k, hk, rfl, hr, hbw⟩ := hrel
    have HLN := Lib.hid (fl_len (fun i => (i : Int)) k)
    have HBW := Lib.hid hbw
    have hz := hbw.size
    clear hbw
    by_cases hlt : k < m
    · have HR := Lib.hid hr; clear hr
      go_wp2_with (at_builtin; refine wpList_append_own _ rfl _ _ 22 rfl w.heap.size 3 i0 (.int .i64 0) 1 8 Try.underlying22 hi iz0 iz1 iz2 rfl (by decide) _ _ _ rfl (World.ownsRow.alloc HR.out _) ⟨wr.heap.size, 0, none⟩ 1 1 [.int .i64 k] rfl rfl ?c1 ?c2 ?c3 ?c4 ?c5 ?_)
      case c1 => exact cell_one_new _ _ _
      case c2 => first | rfl | (intro u hu; simp at hu; subst hu; rfl)
      case c3 => have := HLN.out; unfold maxLen; omega
      case c4 => have := HLN.out; omega
      case c5 => first | omega | (simp; omega)
      intro v' w6 hown hgrow _
      have HR6 := Lib.hid (Row.appended hown)
      have hb : Below w.heap.size w (wr.alloc (.cells #[.int .i64 k] 3)) := HBW.out.alloc (by omega) _
      have HB6 := Lib.hid (hb.grown hgrow (by simp; omega) (fun g hg => (HR.out.lt g hg).1))
      clear hown hgrow hb
      go_wp2
      go_roundw
      case rel => exact ⟨k + 1, by omega, by go_num, by rw [fl_succ]; exact HR6.out, HB6.out⟩
      case measure => simp [intOf]; omega
    · obtain rfl : m = k := by omega
      obtain ⟨g, cp, hvo, hgB, hgl⟩ := hr.form (by rw [fl_len]; omega)
      rw [fl_len] at hvo
      subst hvo
      rw [← H0.out] at hr
      have HR := Lib.hid hr; clear hr
      go_wp2_with fail
      go_loopw [20] (fun vi ws => ∃ k : Nat, k ≤ n ∧ vi = .int .i64 k ∧ Row ws w.heap.size (.slice (some ⟨g, 0, none⟩) m cp) (fl (C k) m) ∧ Below w.heap.size w ws ∧ g < ws.heap.size) (fun vi _ => n - (intOf vi).toNat)
      case atStart => exact ⟨0, Nat.zero_le _, rfl, HR.out, HBW.out, hgl⟩
      case round =>
        obtain ⟨k, hk, rfl, hr, hbs, hgl2⟩ := hrel
        by_cases hkn : k < n
        · obtain ⟨b, off, cap', hv', hb, hc⟩ := HOP.out (by omega)
          cases hv'
          have hc1 := (hbs.cell (p := ⟨b, off + k, none⟩) hb).trans (hc k hkn)
          have hml : (k + 1) % n < n := Nat.mod_lt _ (by omega)
          have hc2 := (hbs.cell (p := ⟨b, off + (k + 1) % n, none⟩) hb).trans (hc _ hml)
          obtain ⟨x0, x1⟩ := HL.out k hkn
          have HST := Lib.hid (HSTEP.out k)
          have hrem := mod_next k n hkn
          obtain ⟨X, hX⟩ := Int.eq_ofNat_of_zero_le x0
          rw [hX] at hc1 x1 HST
          have hXm : X < m := by omega
          have HSTO := Lib.hid (fun w' (hr : Row w' w.heap.size (.slice (some ⟨g, 0, none⟩) m cp) (fl (C k) m)) x => hr.store (by rw [fl_len]) X x)
          have f2 := hr.frozen (by rw [fl_len]) X
          have e2 := Row.cell (l := fl (C k) m) (cap := cp) (by rw [fl_len]; exact hr) X (by rw [fl_len]; exact hXm)
          have HRr := Lib.hid hr
          have HBS := Lib.hid hbs
          clear hr hbs hc hX x0
          generalize l.getD ((k + 1) % n) 0 = y at *
          generalize (k + 1) % n = K at *
          generalize (fl (C k) m).getD X 0 = z at *
          have HR3 := Lib.hid (HSTO.out _ HRr.out y)
          have HB3 := Lib.hid (HBS.out.setCell (p := ⟨g, X, none⟩) hgB (.int .i64 y))
          go_wp2
          go_roundw
          case rel =>
            refine ⟨k + 1, by omega, by go_num, ?_, HB3.out, by simp; omega⟩
            rw [HST.out, Int.toNat_natCast, ← fl_set]
            exact HR3.out
          case measure => (simp [intOf]; try omega)
        · obtain rfl : n = k := by omega
          have HRr := Lib.hid hr
          have HBS := Lib.hid hbs
          clear hr hbs
          go_wp2_with fail
          refine (HPF.out _ _ HRr.out.sl).mono ?_
          rintro e w3 ⟨v3, rfl, hr3, hb3⟩
          have HR3 := Lib.hid hr3; clear hr3
          have HB3 := Lib.hid hb3; clear hb3
          go_wp2
          go_ret
          exact ⟨_, rfl, HR3.out.mono HBS.out.size, HBS.out.trans (HB3.out.mono HBS.out.size)⟩
end Go.Proofs.Ytommagdddleoiaa
