/- Maps told by rows of digits: arithmetic, spec.adFromRows. -/
import Derived.Test.YtlamclhhocofiaaRF
import Derived.Test.YtlamclhhocofiaaRQ
namespace Go.Proofs.Ytlamclhhocofiaa
open Go.RowKit
theorem digs_frm (p : Int) (hp : 0 < p) : ∀ l, AllIn p l → digs l.length p (frm p l) = l := by
  intro l
  induction l with
  | nil => intro _; rfl
  | cons d ds ih =>
    intro h
    obtain ⟨d0, d1⟩ := h d List.mem_cons_self
    show (frm p ds * p + d) % p :: digs ds.length p ((frm p ds * p + d) / p) = d :: ds
    have e1 : (frm p ds * p + d) % p = d := by
      rw [Int.add_comm, Int.add_mul_emod_self_right, Int.emod_eq_of_lt d0 d1]
    have e2 : (frm p ds * p + d) / p = frm p ds := by
      rw [Int.add_comm, Int.add_mul_ediv_right _ _ (by omega), Int.ediv_eq_zero_of_lt d0 d1, Int.zero_add]
    rw [e1, e2, ih fun x hx => h x (List.mem_cons_of_mem _ hx)]
theorem pr_pow (q : Int) (h : isSz q = true) : pr q ^ plN q = q := by
  rcases sz_split q h with rfl | rfl | rfl | rfl | rfl | rfl | rfl | rfl | rfl | rfl <;> decide
theorem allIn_of {p : Int} {l : List Int} (h : l.all (inF p) = true) : AllIn p l := fun d hd => by
  have := List.all_eq_true.1 h d hd
  simpa [inF] using this
/-- A row of digits. -/
def rwo (q : Int) (l : List Int) : Bool := (l.length == plN q) && l.all (inF (pr q))
/-- The rows of a map. -/
def rws (q : Int) (n : Nat) (F : Nat → List Int) : Bool := (n == plN q) && (List.range n).all fun i => rwo q (F i)
theorem rws_parts {q : Int} {n : Nat} {F : Nat → List Int} (h : rws q n F = true) : n = plN q ∧ ∀ i, i < n → (F i).length = plN q ∧ (F i).all (inF (pr q)) = true := by
  simp only [rws, rwo, Bool.and_eq_true, List.all_eq_true, List.mem_range, beq_iff_eq] at h
  exact ⟨h.1, fun i hi => ⟨(h.2 i hi).1, List.all_eq_true.2 (h.2 i hi).2⟩⟩
theorem frm_el {q : Int} {l : List Int} (h : isSz q = true) (hl : l.length = plN q) (ha : l.all (inF (pr q)) = true) : El q (frm (pr q) l) := by
  have := frm_bd (pr q) (by have := pr_bd q h; omega) l (allIn_of ha)
  rw [hl, pr_pow q h] at this
  exact this
theorem dg_frm {q : Int} {l : List Int} (h : isSz q = true) (hl : l.length = plN q) (ha : l.all (inF (pr q)) = true) (i : Nat) : dg q (frm (pr q) l) i = l.getD i 0 := by
  have := digs_frm (pr q) (by have := pr_bd q h; omega) l (allIn_of ha)
  rw [hl] at this
  show (digs (plN q) (pr q) (frm (pr q) l)).getD i 0 = _
  rw [this]
/-- The value at x of the map with the rows F. -/
def frT (q : Int) (F : Nat → List Int) (x : Nat) : Int := lsum q (fun i => mulF q (dg q (x : Int) i) (frm (pr q) (F i))) (plN q)
theorem dg_lt {q x : Int} (h : isSz q = true) (i : Nat) : 0 ≤ dg q x i ∧ dg q x i < pr q := (digs_in (plN q) (pr q) x (by have := pr_bd q h; omega)).getD (by have := pr_bd q h; omega) i
theorem dg_els {q x : Int} (h : isSz q = true) (i : Nat) : El q (dg q x i) := by
  have := dg_lt (x := x) h i
  have := pr_le h
  exact ⟨by omega, by omega⟩
theorem frT_el {q : Int} {F : Nat → List Int} {n : Nat} (h : isSz q = true) (hr : rws q n F = true) (x : Nat) : El q (frT q F x) := by
  obtain ⟨e, hF⟩ := rws_parts hr
  exact lsum_el h fun i hi => (dg_els h i).mul h (frm_el h (hF i (by omega)).1 (hF i (by omega)).2)
/-- What the loops of spec.adFromRows keep. -/
structure FJ (w wr : World) (vt vd v : Value) (T D : List Int) (B k : Nat) (F : Nat → List Int) (X : Nat → Value) : Prop where
  t : Row wr w.heap.size vt T
  d : Row wr w.heap.size vd D
  rows : RS wr B v k F X
  b : Below w.heap.size w wr
theorem FJ.below {w wr w' : World} {vt vd v : Value} {T D : List Int} {B k : Nat} {F : Nat → List Int} {X : Nat → Value} (h : FJ w wr vt vd v T D B k F X) (hb : Below wr.heap.size wr w') : FJ w w' vt vd v T D B k F X :=
  ⟨h.t.below hb, h.d.below hb, h.rows.below hb, h.b.trans (hb.mono h.b.size)⟩
set_option maxRecDepth 100000 in
set_option maxHeartbeats 4000000 in
/-- spec.adFromRows. -/
theorem adFromRows_any (m k B : Nat) (v : Value) (F : Nat → List Int) (X : Nat → Value) (w : World) (h : isSz (m : Int) = true) (hv : RS w B v k F X) (hr : rws (m : Int) k F = true) :
    Calls Try.prog 69 #[.int .i64 m, v] w fun e w' => ∃ v', e = .returned v' ∧ Row w' w.heap.size v' (fl (frT m F) m) ∧ Below w.heap.size w w' := by
  obtain ⟨i0, hi, iz0, iz1, iz2⟩ := info_parts Try.infoI
  have hq := isSz_le (m : Int) h
  have hkb := plN_bd (m : Int) h
  have hp := pr_bd (m : Int) h
  obtain ⟨hkk, hF⟩ := rws_parts hr
  have HV := Lib.hid (fun i (hi : i < k) => frm_el h (hF i hi).1 (hF i hi).2)
  have HL7 := Lib.hid (fun i (hi : i < k) => (hF i hi).1)
  have HFR := Lib.hid (fun i (hi : i < k) g cap w hc => fdFrom_any (m : Int) (F i) g cap w h (allIn_of (hF i hi).2) (by rw [(hF i hi).1]; omega) hc)
  have HPL := Lib.hid (fun (a b : Int) w (ha : El m a) (hb : El m b) => fdPlus_any (m : Int) a b w h ha.1 ha.2 hb.1 hb.2)
  have HDG := Lib.hid (fun (x : Nat) w (hx : x < m) => fdDigits_any (m : Int) x w h (by omega) (by omega))
  have HST : Hid (∀ (S : Int) (i c : Nat), i < k → El m S → (c : Int) + 1 < pr m → El m (addF m S (mulF m c (frm (pr m) (F i)))) ∧ addF m (addF m S (mulF m c (frm (pr m) (F i)))) (frm (pr m) (F i)) = addF m S (mulF m ((c + 1 : Nat) : Int) (frm (pr m) (F i)))) := Lib.hid fun S i c hi hS hc => by
    have hV := HV.out i hi
    have hpl := pr_le h
    have hcE : El (m : Int) (c : Int) := ⟨by omega, by omega⟩
    refine ⟨hS.add h (hcE.mul h hV), ?_⟩
    rw [add_assoc' h hS (hcE.mul h hV) hV, ← mul_next h hcE hV hc]
    rfl
  have HZ0 : Hid (∀ (S : Int) (i : Nat), i < k → El m S → addF m S (mulF m 0 (frm (pr m) (F i))) = S) := Lib.hid fun S i hi hS => by
    rw [(mul_zero' h (HV.out i hi)).1, (add_zero' h hS).1]
  have HD : Hid (∀ (x i : Nat), ∃ d : Nat, (d : Int) < pr m ∧ (digs (plN (m : Int)) (pr m) (x : Int)).getD i 0 = (d : Int) ∧ dg (m : Int) (x : Int) i = (d : Int)) := Lib.hid fun x i => by
    have hd := dg_lt (x := (x : Int)) h i
    obtain ⟨d, e⟩ := Int.eq_ofNat_of_zero_le hd.1
    exact ⟨d, by rw [← e]; exact hd.2, e, e⟩
  have HDL : Hid (∀ x : Nat, (digs (plN (m : Int)) (pr m) (x : Int)).length = k) := Lib.hid fun x => by rw [digs_len, hkk]
  have HT : Hid (∀ x : Nat, frT m F x = lsum m (fun i => mulF m (dg m (x : Int) i) (frm (pr m) (F i))) k) := Lib.hid fun x => by rw [hkk]; rfl
  have HS1 : Hid (∀ (u : Nat → Int) (i : Nat), lsum (m : Int) u (i + 1) = addF m (lsum m u i) (u i)) := Lib.hid fun _ _ => rfl
  have HS0 : Hid (∀ (u : Nat → Int), lsum (m : Int) u 0 = 0) := Lib.hid fun _ => rfl
  have HSE : Hid (∀ (x i : Nat), i ≤ k → El m (lsum m (fun i => mulF m (dg m (x : Int) i) (frm (pr m) (F i))) i)) := Lib.hid fun x i hi => lsum_el h fun j hj => (dg_els h j).mul h (HV.out j (by omega))
  have hE0 := El.zero h
  have HR0 := Lib.hid hv
  obtain ⟨g0, cap0, rfl, hgB, hg0, _⟩ := hv.form (by omega)
  have HCE : Hid (∀ wr, RS wr B (.slice (some ⟨g0, 0, none⟩) k cap0) k F X → ∀ i, i < k → wr.cell? ⟨g0, i, none⟩ = some (X i) ∧ ∃ g1 c1, X i = .slice (some ⟨g1, 0, none⟩) (F i).length c1 ∧ ∀ j, j < (F i).length → wr.cell? ⟨g1, j, none⟩ = some (.int .i64 ((F i).getD j 0))) := Lib.hid fun wr hrs i hi => by
    obtain ⟨g', cp', e', _, _, hc⟩ := hrs.form (by omega)
    cases e'
    refine ⟨hc i hi, ?_⟩
    have hro := hrs.inner i hi
    obtain ⟨g1, c1, e1, _⟩ := hro.form (by rw [HL7.out i hi]; omega)
    refine ⟨g1, c1, e1, fun j hj => ?_⟩
    rw [e1] at hro
    exact hro.cell j hj
  clear hv hF h hr
  rw [← hkk] at hkb
  clear hkk
  generalize pr (m : Int) = p at *
  go_enter Try.func69, Try.ntmps69
  go_wp2_with fail
  go_loopw [5, 6] (fun vt0 vx wr => ∃ x : Nat, ∃ vtt : Value, vtt = vt0 ∧ x ≤ m ∧ vx = .int .i64 x ∧ Row wr w.heap.size vtt (fl (frT m F) x) ∧ Below w.heap.size w wr) (fun _ vx _ => m - (intOf vx).toNat)
  case atStart => exact ⟨0, _, rfl, Nat.zero_le _, rfl, Row.nil _ _, Below.refl _ _⟩
  case round =>
    obtain ⟨x, vtt, rfl, hx, rfl, hrt, hbw⟩ := hrel
    by_cases hlt : x < m
    · have HRT := Lib.hid hrt; clear hrt
      have HBW := Lib.hid hbw; clear hbw
      have HDG' := Lib.hid (HDG.out x wr hlt)
      have HD' := Lib.hid (HD.out x)
      have HDL' := HDL.out x
      have HT' := Lib.hid (HT.out x)
      have HSE' := Lib.hid (HSE.out x)
      have HU : Hid (∀ i, (fun i => mulF m (dg m (x : Int) i) (frm p (F i))) i = mulF m (dg m (x : Int) i) (frm p (F i))) := Lib.hid fun _ => rfl
      generalize (fun i => mulF m (dg m (x : Int) i) (frm p (F i))) = U at *
      go_wp2_with fail
      refine HDG'.out.mono ?_
      rintro e w2 ⟨vd, rfl, hrd, hb2⟩
      have hz := HBW.out.size
      generalize digs (plN (m : Int)) p (x : Int) = D at *
      obtain ⟨gd, cd, hvd, hgdB, hgdl⟩ := hrd.form (by rw [HDL']; omega)
      rw [HDL'] at hvd
      subst hvd
      have HJ : Hid (FJ w w2 _ _ _ _ _ B k F X) := Lib.hid ⟨HRT.out.below hb2, hrd.mono hz, (HR0.out.below HBW.out).below hb2, HBW.out.trans (hb2.mono hz)⟩
      have HDC : Hid (∀ wq, Row wq w.heap.size (.slice (some ⟨gd, 0, none⟩) k cd) D → ∀ i, i < k → wq.cell? ⟨gd, i, none⟩ = some (.int .i64 (D.getD i 0))) := Lib.hid fun wq hq i hi => Row.cell (by rw [HDL']; exact hq) i (by rw [HDL']; exact hi)
      clear hrd hb2 HRT HBW
      go_wp2_with fail
      go_loopw [7, 19] (fun vs vi wr => ∃ i : Nat, i ≤ k ∧ vi = .int .i64 i ∧ vs = .int .i64 (lsum m U i) ∧ FJ w wr vtt (.slice (some ⟨gd, 0, none⟩) k cd) (.slice (some ⟨g0, 0, none⟩) k cap0) (fl (frT m F) x) D B k F X) (fun _ vi _ => k - (intOf vi).toNat)
      case atStart => exact ⟨0, Nat.zero_le _, rfl, by rw [HS0.out], HJ.out⟩
      case round =>
        obtain ⟨i, hi2, rfl, rfl, hj⟩ := hrel
        have HJ2 := Lib.hid hj; clear hj
        by_cases hlt2 : i < k
        · obtain ⟨d, hdp, hdD, hdg⟩ := HD'.out i
          have hcd := HDC.out _ HJ2.out.d i hlt2
          rw [hdD] at hcd
          have HSi := Lib.hid (HSE'.out i (by omega))
          have HSn : Hid (lsum (m : Int) U (i + 1) = addF m (lsum m U i) (mulF m d (frm p (F i)))) := Lib.hid (by rw [HS1.out, HU.out, hdg])
          have HST' := Lib.hid (fun S c => HST.out S i c hlt2)
          have HZ' := Lib.hid (fun S => HZ0.out S i hlt2)
          have HV' := Lib.hid (HV.out i hlt2)
          have HFR' := Lib.hid (HFR.out i hlt2)
          obtain ⟨S', hS'⟩ : ∃ S', lsum (m : Int) U (i + 1) = S' := ⟨_, rfl⟩
          rw [hS'] at HSn
          have HSS := Lib.hid hS'; clear hS'
          generalize lsum (m : Int) U i = S at *
          generalize frm p (F i) = V at *
          clear hdD
          go_wp2_with fail
          go_loopw [7, 9] (fun vs vd wr => ∃ c e : Nat, c + e = d ∧ vd = .int .i64 e ∧ vs = .int .i64 (addF m S (mulF m c V)) ∧ FJ w wr vtt (.slice (some ⟨gd, 0, none⟩) k cd) (.slice (some ⟨g0, 0, none⟩) k cap0) (fl (frT m F) x) D B k F X) (fun _ vd _ => (intOf vd).toNat)
          case atStart => exact ⟨0, d, by omega, rfl, by rw [show ((0 : Nat) : Int) = 0 from rfl, HZ'.out _ HSi.out], HJ2.out⟩
          case round =>
            obtain ⟨c, e, hce, rfl, rfl, hj⟩ := hrel
            have HJ3 := Lib.hid hj; clear hj
            by_cases h0 : 0 < e
            · obtain ⟨hc0, g1, c1, e1, hc1⟩ := HCE.out _ HJ3.out.rows i hlt2
              rw [e1] at hc0
              have HF1 := Lib.hid (HFR'.out g1 c1 wr hc1)
              have hst := HST'.out S c HSi.out (by omega)
              have HE := Lib.hid hst.2
              have HP1 := Lib.hid (HPL.out (addF m S (mulF m c V)) V wr hst.1 HV'.out)
              rw [HE.out] at HP1
              obtain ⟨S2, hS2⟩ : ∃ y, addF m S (mulF m ((c + 1 : Nat) : Int) V) = y := ⟨_, rfl⟩
              rw [hS2] at HP1
              have HS2 := Lib.hid hS2
              clear hst hc1 HE hS2
              generalize addF m S (mulF m c V) = S1 at *
              clear e1
              generalize (F i).length = lf at *
              go_wp2_with fail
              refine HF1.out.mono ?_
              rintro e' _ ⟨rfl, rfl⟩
              go_wp2_with fail
              refine HP1.out.mono ?_
              rintro e' w4 ⟨rfl, hb4⟩
              have HJ4 := Lib.hid (HJ3.out.below hb4); clear hb4
              go_wp2
              go_roundw
              case rel => exact ⟨c + 1, e - 1, by omega, by go_num, by rw [HS2.out], HJ4.out⟩
              case measure => simp [intOf]; omega
            · obtain rfl : e = 0 := by omega
              obtain rfl : c = d := by omega
              rw [← HSn.out]
              go_wp2
              go_roundw
              case rel => exact ⟨i + 1, by omega, by go_num, by rw [HSS.out], HJ3.out⟩
              case measure => simp [intOf]; omega
        · obtain rfl : k = i := by omega
          rw [← HT'.out]
          generalize hTx : frT m F x = y at *
          have HTx := Lib.hid hTx; clear hTx
          have HFL := Lib.hid (fl_len (frT m F) x)
          have hsz := HJ2.out.b.size
          have HFS := Lib.hid (fl_succ (frT m F) x)
          go_wp2_with (at_builtin; refine wpList_append_own _ rfl _ _ 22 rfl w.heap.size 3 i0 (.int .i64 0) 1 8 Try.underlying22 hi iz0 iz1 iz2 rfl (by decide) _ _ _ rfl (World.ownsRow.alloc HJ2.out.t _) ⟨wr.heap.size, 0, none⟩ 1 1 [.int .i64 y] rfl rfl ?c1 ?c2 ?c3 ?c4 ?c5 ?_)
          case c1 => exact cell_one_new _ _ _
          case c2 => first | rfl | (intro u hu; simp at hu; subst hu; rfl)
          case c3 => have := HFL.out; unfold maxLen; omega
          case c4 => have := HFL.out; omega
          case c5 => first | omega | (simp; omega)
          intro v' w6 hown hgrow _
          have HR6 := Lib.hid (Row.appended hown)
          have hb : Below w.heap.size w (wr.alloc (.cells #[.int .i64 y] 3)) := HJ2.out.b.alloc (by omega) _
          have HB6 := Lib.hid (hb.grown hgrow (by simp; omega) (fun g hg => (HJ2.out.t.lt g hg).1))
          clear hown hgrow hb
          go_wp2
          go_roundw
          case rel => exact ⟨x + 1, _, rfl, by omega, by go_num, by rw [HFS.out, HTx.out]; exact HR6.out, HB6.out⟩
          case measure => simp [intOf]; omega
    · obtain rfl : m = x := by omega
      have HRT := Lib.hid hrt; clear hrt
      have HBW := Lib.hid hbw; clear hbw
      go_wp2
      go_ret
      exact ⟨_, rfl, HRT.out, HBW.out⟩
end Go.Proofs.Ytlamclhhocofiaa
