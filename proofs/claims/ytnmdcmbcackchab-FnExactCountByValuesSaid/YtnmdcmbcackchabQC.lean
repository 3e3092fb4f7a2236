/- impl.field.countByValues, by a contract. -/
import Derived.Test.YtnmdcmbcackchabQA
import Derived.Test.YtnmdcmbcackchabQB
import Derived.Test.YtnmdcmbcackchabOE
namespace Go.Proofs.Ytnmdcmbcackchab
open Go.RowKit
theorem field_VB (q : Int) (c : Nat → Int) (v : Value) (w : World) : (Instr.field 90 (.agg (VB q c v)) 0).run Try.prog w = .ok (.agg (VA q c)) w := by
  kernel_rfl
/-- The counts after k of the polynomials that are looked at. -/
def cvc (m d k : Nat) : Nat → Int := fun y => ((fms m d : Nat) : Int) * oc (TPl m d) k y
theorem cvc_succ (m d k : Nat) : upd (cvc m d k) (nv m (vt m d 1 (dgt m (m * k)))) (cvc m d k (nv m (vt m d 1 (dgt m (m * k)))) + (fms m d : Nat)) = cvc m d (k + 1) := by
  have e := oc_succ (TPl m d) k (nv m (vt m d 1 (dgt m (m * k)))) rfl
  funext y
  unfold cvc
  rw [e]
  unfold upd
  by_cases h : y = nv m (vt m d 1 (dgt m (m * k)))
  · rw [if_pos h, if_pos h, Int.mul_add, Int.mul_one]
  · rw [if_neg h, if_neg h]
theorem cvc_bd {m d k : Nat} (hm : m ≤ 16) (hk : k ≤ 20000) (y : Nat) : 0 ≤ cvc m d k y ∧ cvc m d k y ≤ 5120000 ∧ fms m d ≤ 256 := by
  have h1 := oc_bd (TPl m d) k y
  have h2 : fms m d ≤ 256 := by
    unfold fms
    split
    · omega
    · exact Nat.le_trans (Nat.mul_le_mul (show m - 1 ≤ 16 by omega) hm) (by omega)
  refine ⟨Int.mul_nonneg (Int.natCast_nonneg _) h1.1, ?_, h2⟩
  have h3 : cvc m d k y ≤ 256 * (20000 : Int) := Int.mul_le_mul (by omega) (by omega) h1.1 (by omega)
  omega
/-- The memory while values are counted. -/
structure NC (w0 wr : World) (m d k C : Nat) : Prop where
  lo : w0.heap.size + 2 < C
  hf : wr.heap[C + 1]? = some (ffblk (m : Int))
  hc : wr.heap[C]? = some (.cells #[.slice (some ⟨w0.heap.size + 2, 0, none⟩) (m + 1) (m + 1)] 22 (0, 0))
  ho : wr.heap[w0.heap.size + 1]? = some (.cells #[.int .i64 (fms m d : Nat)] 3 (0, 0))
  hr : Row wr (w0.heap.size + 2) (.slice (some ⟨w0.heap.size + 2, 0, none⟩) (m + 1) (m + 1)) (fl (cvc m d k) (m + 1))
  bel : Below w0.heap.size w0 wr
theorem NC.lt {w0 wr : World} {m d k C : Nat} (h : NC w0 wr m d k C) : C + 1 < wr.heap.size := (cells3' h.hf).2.2.2.2
theorem NC.below {w0 wr w' : World} {m d k C : Nat} (h : NC w0 wr m d k C) (hb : Below wr.heap.size wr w') : NC w0 w' m d k C := by
  have hl := h.lt
  have hz := h.bel.size
  have hlo := h.lo
  exact ⟨hlo, (hb.block _ hl).trans h.hf, (hb.block _ (by omega)).trans h.hc, (hb.block _ (by omega)).trans h.ho, h.hr.below hb, h.bel.trans (hb.mono hz)⟩
theorem NC.cellR {w0 wr : World} {m d k C : Nat} (h : NC w0 wr m d k C) (i : Nat) (hi : i < m + 1) : wr.cell? ⟨w0.heap.size + 2, i, none⟩ = some (.int .i64 (cvc m d k i)) ∧ wr.frozen? ⟨w0.heap.size + 2, i, none⟩ = false := by
  have h1 := Row.cell (l := fl (cvc m d k) (m + 1)) (cap := m + 1) (by rw [fl_len]; exact h.hr) i (by rw [fl_len]; omega)
  rw [fl_get _ _ _ hi] at h1
  exact ⟨h1, h.hr.frozen (by rw [fl_len]) i⟩
theorem NC.put {w0 wr : World} {m d k C : Nat} (h : NC w0 wr m d k C) (i : Nat) (x : Int) (e : upd (cvc m d k) i x = cvc m d (k + 1)) : NC w0 (wr.setCell ⟨w0.heap.size + 2, i, none⟩ (.int .i64 x)) m d (k + 1) C := by
  have hr := h.hr.store (by rw [fl_len]) i x
  rw [fl_set, e] at hr
  have hlo := h.lo
  exact ⟨hlo, (heap_setCell_other _ _ _ _ (by show ¬ C + 1 = w0.heap.size + 2; omega)).trans h.hf, (heap_setCell_other _ _ _ _ (by show ¬ C = w0.heap.size + 2; omega)).trans h.hc, (heap_setCell_other _ _ _ _ (by simp)).trans h.ho, hr, h.bel.setCell (by simp) _⟩
set_option maxRecDepth 100000 in
set_option maxHeartbeats 8000000 in
/-- The closure of impl.field.countByValues. -/
theorem cvClo (m d k g C : Nat) (w0 wr w : World) (h : isSz (m : Int) = true) (hdm : d < m) (hk : k ≤ 20000) (hn : NC w0 wr m d k C) (hb : Below wr.heap.size wr w) (hg : g < w.heap.size) (he : Els w g (m : Int) (pf m d (m * k)) (d + 1)) :
    Calls Try.prog 72 #[polyE (m : Int) (.slice (some ⟨g, 0, none⟩) (d + 1) (d + 1)), .pointer (some ⟨C, 0, none⟩), .pointer (some ⟨w0.heap.size + 1, 0, none⟩)] w fun e w'' => e = .returned (.tuple #[]) ∧ NC w0 w'' m d (k + 1) C := by
  have hq := isSz_le (m : Int) h
  have hnw := hn.below hb
  have hel : ∀ i, El (m : Int) (pf m d (m * k) i) := fun i => pf_el d _ (by omega) i
  have HVT := Lib.hid (fun w' (hgl : g < w'.heap.size) (he' : Els w' g (m : Int) (pf m d (m * k)) (d + 1)) => valueTableE m g (d + 1) (d + 1) (pf m d (m * k)) w' h hgl he' hel (by omega))
  have HDF := Lib.hid (fun w' => differentE m (oc (tabF (m : Int) (pf m d (m * k)) (d + 1)) m) w' h)
  have HNV : Hid ((wh (ps (oc (tabF (m : Int) (pf m d (m * k)) (d + 1)) m)) m).length = nv m (vt m d 1 (dgt m (m * k)))) := Lib.hid (by
    rw [nv_wh]
    exact nv_congr fun i hi => by rw [pf_tp]; exact tabF_vt h (El.one h) (fun i => dgt_el (by omega) i) i hi)
  rw [HNV.out] at HDF
  have hnm := nv_le m (vt m d 1 (dgt m (m * k)))
  have HUP := Lib.hid (cvc_succ m d k)
  have hbd := cvc_bd (m := m) (d := d) (k := k) (by omega) hk (nv m (vt m d 1 (dgt m (m * k))))
  have HFL := Lib.hid (fun a n j w => field_VB (m : Int) (oc (tabF (m : Int) (pf m d (m * k)) (d + 1)) m) (.slice a n j) w)
  clear h hn hb HNV hel
  generalize nv m (vt m d 1 (dgt m (m * k))) = N at *
  generalize tabF (m : Int) (pf m d (m * k)) (d + 1) = t at *
  generalize pf m d (m * k) = f at *
  generalize hFd : fms m d = F at *
  obtain ⟨x, hx⟩ : ∃ x, cvc m d k N = x := ⟨_, rfl⟩
  rw [hx] at HUP hbd
  obtain ⟨b1, b2, b3⟩ := hbd
  have hwr : IntKind.i64.wrap (x + (F : Int)) = x + (F : Int) := IntWalk.i64_in _ (by omega)
  have HXX := Lib.hid hx
  clear hx
  have hB1 := (Below.refl w.heap.size w).alloc (Nat.le_refl _) (pblk (m : Int) (.slice (some ⟨g, 0, none⟩) (d + 1) (d + 1)))
  have HNW := Lib.hid hnw
  have HE1 := Lib.hid he
  have hl4 := hnw.lt
  have hlo4 := hnw.lo
  have HKEEP : Hid (∀ w', Below (w.heap.size + 1) (w.alloc (pblk (m : Int) (.slice (some ⟨g, 0, none⟩) (d + 1) (d + 1)))) w' → w'.cell? ⟨C, 0, none⟩ = some (.slice (some ⟨w0.heap.size + 2, 0, none⟩) (m + 1) (m + 1)) ∧ w'.cell? ⟨w0.heap.size + 1, 0, none⟩ = some (.int .i64 (F : Int)) ∧ w'.cell? ⟨w.heap.size, 0, none⟩ = some (.int .i64 m) ∧ w'.cell? ⟨w.heap.size, 1, none⟩ = some (.int .i64 (pr m)) ∧ w'.cell? ⟨w.heap.size, 2, none⟩ = some (.int .i64 (pl m)) ∧ w'.cell? ⟨w.heap.size, 3, none⟩ = some (.slice (some ⟨g, 0, none⟩) (d + 1) (d + 1))) := Lib.hid fun w' hb => by
    have hbw : Below w.heap.size w w' := by (repeat' (first | (with_reducible assumption) | (with_reducible exact Below.refl _ _) | (with_reducible refine below_drewN ?_ _) | (with_reducible refine Below.drew ?_) | (with_reducible refine Below.alloc ?_ ?_ _) | (with_reducible refine Below.setCell ?_ ?_ _) | (with_reducible refine Below.trans ?_ (Below.mono (by assumption) ?_)) | (with_reducible exact Nat.le_refl _) | (with_reducible assumption) | omega | (simp; omega) | (simp; done)))
    have hn' := HNW.out.below hbw
    obtain ⟨y0, y1, y2, y3, _⟩ := cells4 ((hb.block _ (by omega)).trans (heap_alloc_new w _))
    refine ⟨at_box hn'.hc, ?_, y0, y1, y2, y3⟩
    have := at_box hn'.ho
    rw [hFd] at this
    exact this
  clear hnw he hB1
  generalize VA (m : Int) (oc t m) = AV at *
  have hfld := HFL.out
  go_enter Try.func72, Try.ntmps72
  go_wp2_with fail
  obtain ⟨c0, o0, p0, p1, p2, p3⟩ := HKEEP.out _ (Below.refl _ _)
  go_region_with
    (first
    | (go_at_call 73; refine (HVT.out _ (by simp; omega) (HE1.out.below (B := w.heap.size) (by (repeat' (first | (with_reducible assumption) | (with_reducible exact Below.refl _ _) | (with_reducible refine below_drewN ?_ _) | (with_reducible refine Below.drew ?_) | (with_reducible refine Below.alloc ?_ ?_ _) | (with_reducible refine Below.setCell ?_ ?_ _) | (with_reducible refine Below.trans ?_ (Below.mono (by assumption) ?_)) | (with_reducible exact Nat.le_refl _) | (with_reducible assumption) | omega | (simp; omega) | (simp; done)))) hg)).mono ?_; rintro e w4 ⟨g4, rfl, hg4, hgl4, he4, hb4⟩; clear he4; obtain ⟨hc4, hf4⟩ := bcell hb4; (try simp only [World.size_drew] at hc4 hf4); have hz4 := hb4.size; (try simp at hz4); have HB4 := Lib.hid hb4; clear hb4; have hb4 := HB4.out; obtain ⟨c0', o0', p0', p1', p2', p3'⟩ := HKEEP.out w4 (by (repeat' (first | (with_reducible assumption) | (with_reducible exact Below.refl _ _) | (with_reducible refine below_drewN ?_ _) | (with_reducible refine Below.drew ?_) | (with_reducible refine Below.alloc ?_ ?_ _) | (with_reducible refine Below.setCell ?_ ?_ _) | (with_reducible refine Below.trans ?_ (Below.mono (by assumption) ?_)) | (with_reducible exact Nat.le_refl _) | (with_reducible assumption) | omega | (simp; omega) | (simp; done)))); clear hb4; (try have l4 : w.heap.size < w4.heap.size := (by omega)))
    | (go_at_call 74; refine (HDF.out _).mono ?_; rintro e w5 ⟨rfl, hb5⟩; have hbw5 : Below w.heap.size w w5 := (by have hb4 := HB4.out; (repeat' (first | (with_reducible assumption) | (with_reducible exact Below.refl _ _) | (with_reducible refine below_drewN ?_ _) | (with_reducible refine Below.drew ?_) | (with_reducible refine Below.alloc ?_ ?_ _) | (with_reducible refine Below.setCell ?_ ?_ _) | (with_reducible refine Below.trans ?_ (Below.mono (by assumption) ?_)) | (with_reducible exact Nat.le_refl _) | (with_reducible assumption) | omega | (simp; omega) | (simp; done)))); have HN5 := Lib.hid (HNW.out.below hbw5); obtain ⟨hck, hfk⟩ := HN5.out.cellR N (by omega); rw [HXX.out] at hck; clear hbw5; obtain ⟨hc5, hf5⟩ := bcell hb5; (try simp only [World.size_drew] at hc5 hf5); have hz5 := hb5.size; (try simp at hz5); have HB5 := Lib.hid hb5; clear hb5; have hb4 := HB4.out; have hb5 := HB5.out; obtain ⟨c0'', o0'', p0'', p1'', p2'', p3''⟩ := HKEEP.out w5 (by (repeat' (first | (with_reducible assumption) | (with_reducible exact Below.refl _ _) | (with_reducible refine below_drewN ?_ _) | (with_reducible refine Below.drew ?_) | (with_reducible refine Below.alloc ?_ ?_ _) | (with_reducible refine Below.setCell ?_ ?_ _) | (with_reducible refine Below.trans ?_ (Below.mono (by assumption) ?_)) | (with_reducible exact Nat.le_refl _) | (with_reducible assumption) | omega | (simp; omega) | (simp; done)))); clear hb4 hb5; (try have l5 : w.heap.size < w5.heap.size := (by omega))))
  all_goals
    go_wp2
    first | (refine bodyPost_ret (results_none rfl _ _ _) rfl ?_) | go_end0
    exact ⟨rfl, HN5.out.put N _ HUP.out⟩
end Go.Proofs.Ytnmdcmbcackchab
