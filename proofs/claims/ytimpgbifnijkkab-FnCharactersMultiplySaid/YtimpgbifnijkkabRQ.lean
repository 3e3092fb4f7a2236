/- Slices of slices of integers that came in: laws.szIntSS, laws.toIntSS by contracts. -/
import Derived.Test.YtimpgbifnijkkabRM
namespace Go.Proofs.Ytimpgbifnijkkab
open Go.RowKit
/-- v reads as n lists. -/
def Sls (w : World) (v : Value) (n : Nat) (F : Nat → List Int) : Prop :=
  (n = 0 ∧ ∃ a cap, v = .slice a 0 cap) ∨
  ∃ b off cap, ∃ X : Nat → Value, v = .slice (some ⟨b, off, none⟩) n cap ∧ b < w.heap.size ∧ ∀ i, i < n → w.cell? ⟨b, off + i, none⟩ = some (X i) ∧ Sl w (X i) (F i)
theorem Sls.below {w w' : World} {v : Value} {n B : Nat} {F : Nat → List Int} (h : Sls w v n F) (hb : Below B w w') (hB : w.heap.size ≤ B) : Sls w' v n F := by
  rcases h with h | ⟨b, off, cap, X, rfl, hlt, hc⟩
  · exact .inl h
  · exact .inr ⟨b, off, cap, X, rfl, by have := hb.size; omega, fun i hi => ⟨(hb.cell (p := ⟨b, off + i, none⟩) (show b < B by omega)).trans (hc i hi).1, (hc i hi).2.below hb hB⟩⟩
theorem Sls.form {w : World} {v : Value} {n : Nat} {F : Nat → List Int} (h : Sls w v n F) : ∃ a cap, v = .slice a n cap := by
  rcases h with ⟨rfl, a, cap, rfl⟩ | ⟨b, off, cap, X, rfl, _⟩
  · exact ⟨_, _, rfl⟩
  · exact ⟨_, _, rfl⟩
theorem Sls.open {w : World} {v : Value} {n : Nat} {F : Nat → List Int} (h : Sls w v n F) (hn : 0 < n) : ∃ b off cap, ∃ X : Nat → Value, v = .slice (some ⟨b, off, none⟩) n cap ∧ b < w.heap.size ∧ ∀ i, i < n → w.cell? ⟨b, off + i, none⟩ = some (X i) ∧ Sl w (X i) (F i) := by
  rcases h with ⟨rfl, _⟩ | h
  · omega
  · exact h
/-- Slices of one's own as read. -/
def Rs (w : World) (v : Value) (n : Nat) (F : Nat → List Int) : Prop := ∃ B X, RS w B v n F X
theorem Rs.below {w w' : World} {v : Value} {n : Nat} {F : Nat → List Int} (h : Rs w v n F) (hb : Below w.heap.size w w') : Rs w' v n F := by
  obtain ⟨B, X, hr⟩ := h
  exact ⟨B, X, hr.below hb⟩
theorem RS.rs {w : World} {B n : Nat} {v : Value} {F : Nat → List Int} {X : Nat → Value} (h : RS w B v n F X) : Rs w v n F := ⟨B, X, h⟩
set_option maxHeartbeats 1000000 in
/-- laws.szIntS. -/
theorem szS_any (v : Value) (l : List Int) (left : Int) (w : World) (hv : Sl w v l) (h0 : 0 ≤ left) (h1 : left ≤ 1048576) (hl : l.length ≤ 9223372036854775807) :
    Calls Try.prog 50 #[v, .int .i64 left] w fun e w' => e = .returned (.int .i64 (if left - (l.length : Int) < 0 then -1 else left - (l.length : Int))) ∧ w = w' := by
  obtain ⟨a, cap, rfl⟩ := hv.form
  clear hv
  generalize l.length = n at *
  have hw : IntKind.i64.wrap (left - (n : Int)) = left - (n : Int) := IntWalk.i64_in _ (by omega)
  by_cases hc : left - (n : Int) < 0
  · rw [if_pos hc]
    go_enter Try.func50, Try.ntmps50
    go_wp2
    go_ret
    exact ⟨rfl, rfl⟩
  · rw [if_neg hc]
    go_enter Try.func50, Try.ntmps50
    go_wp2
    go_ret
    exact ⟨rfl, rfl⟩
set_option maxHeartbeats 2000000 in
/-- laws.szIntSS. -/
theorem szSS_any (v : Value) (n : Nat) (F : Nat → List Int) (w : World) (hv : Sls w v n F) (hn : n ≤ 9223372036854775807) (hl : ∀ i, i < n → (F i).length ≤ 9223372036854775807) :
    Calls Try.prog 18 #[v, .int .i64 1048576] w fun e w' => ∃ r : Int, e = .returned (.int .i64 r) ∧ (r = -1 ∨ 0 ≤ r ∧ n + ofs F n ≤ 1048576) ∧ w = w' := by
  have hw : IntKind.i64.wrap (1048576 - (n : Int)) = 1048576 - (n : Int) := IntWalk.i64_in _ (by omega)
  by_cases hc : (1048576 : Int) - (n : Int) < 0
  · obtain ⟨a, cap, rfl⟩ := hv.form
    clear hv hl
    go_enter Try.func18, Try.ntmps18
    go_wp2
    go_ret
    exact ⟨_, rfl, .inl rfl, rfl⟩
  · by_cases h0 : 0 < n
    · obtain ⟨b, off, cap, X, rfl, hb, hcell⟩ := hv.open h0
      have HC := Lib.hid hcell
      have HL := Lib.hid hl
      have HZ := Lib.hid (fun i (hi : i < n) (left : Int) (h0 : 0 ≤ left) (h1 : left ≤ 1048576) => szS_any (X i) (F i) left w (hcell i hi).2 h0 h1 (hl i hi))
      have HF : Hid (∀ i, i < n → ∃ a c, X i = .slice a (F i).length c) := Lib.hid fun i hi => (hcell i hi).2.form
      have HO : Hid (∀ i, ofs F (i + 1) = ofs F i + (F i).length) := Lib.hid fun _ => rfl
      have hO0 : ofs F 0 = 0 := rfl
      clear hv hcell hl
      generalize ofs F = O at *
      go_enter Try.func18, Try.ntmps18
      go_wp2_with fail
      go_loopw [1, 5] (fun vl vi wr => ∃ i : Nat, i ≤ n ∧ vi = .int .i64 i ∧ vl = .int .i64 (1048576 - (n : Int) - (O i : Int)) ∧ n + O i ≤ 1048576 ∧ wr = w) (fun _ vi _ => n - (intOf vi).toNat)
      case atStart => exact ⟨0, Nat.zero_le _, rfl, by rw [hO0]; simp, by omega, rfl⟩
      case round =>
        obtain ⟨i, hi, rfl, rfl, hbd, rfl⟩ := hrel
        by_cases hlt : i < n
        · have hci := (HC.out i hlt).1
          have HZ' := Lib.hid (HZ.out i hlt (1048576 - (n : Int) - (O i : Int)) (by omega) (by omega))
          have HO' := Lib.hid (HO.out i)
          obtain ⟨ax, cx, hxf⟩ := HF.out i hlt
          rw [hxf] at hci HZ'
          clear hxf
          generalize hk : (F i).length = k at *
          generalize O i = o at *
          obtain ⟨left, hleft⟩ : ∃ left : Int, 1048576 - (n : Int) - (o : Int) = left := ⟨_, rfl⟩
          rw [hleft] at HZ' ⊢
          by_cases hneg : left - (k : Int) < 0
          · rw [if_pos hneg] at HZ'
            go_wp2_with fail
            refine HZ'.out.mono ?_
            rintro e w2 ⟨rfl, rfl⟩
            go_wp2
            go_ret
            exact ⟨_, rfl, .inl rfl, rfl⟩
          · rw [if_neg hneg] at HZ'
            have HE : Hid (left - (k : Int) = 1048576 - (n : Int) - (O (i + 1) : Int) ∧ n + O (i + 1) ≤ 1048576) := Lib.hid (by rw [HO'.out]; omega)
            clear hleft
            go_wp2_with fail
            refine HZ'.out.mono ?_
            rintro e w2 ⟨rfl, rfl⟩
            go_wp2
            go_roundw
            case rel => exact ⟨i + 1, by omega, by go_num, by rw [HE.out.1], HE.out.2, by first | rfl | trivial⟩
            case measure => simp [intOf]; omega
        · obtain rfl : n = i := by omega
          go_wp2
          go_ret
          exact ⟨_, rfl, .inr ⟨by omega, hbd⟩, rfl⟩
    · obtain rfl : n = 0 := by omega
      obtain ⟨a, cap, rfl⟩ := hv.form
      clear hv hl
      go_enter Try.func18, Try.ntmps18
      go_wp2_with fail
      go_loopw [1, 5] (fun vl vi wr => (∃ r : Int, 0 ≤ r ∧ vl = .int .i64 r) ∧ vi = .int .i64 0 ∧ wr = w) (fun _ _ _ => 0)
      case atStart => exact ⟨⟨_, by omega, rfl⟩, rfl, rfl⟩
      case round =>
        obtain ⟨⟨r, hr, rfl⟩, rfl, rfl⟩ := hrel
        go_wp2
        go_ret
        exact ⟨_, rfl, .inr ⟨by omega, by simp [ofs]⟩, by first | rfl | trivial⟩
set_option maxRecDepth 100000 in
set_option maxHeartbeats 4000000 in
/-- laws.toIntSS. -/
theorem toIntSS_any (v : Value) (n : Nat) (F : Nat → List Int) (w : World) (hv : Sls w v n F) (hn : n ≤ 1048576) (hl : ∀ i, i < n → (F i).length ≤ 1048576) :
    Calls Try.prog 20 #[v] w fun e w' => ∃ v' X, e = .returned v' ∧ RS w' w.heap.size v' n F X ∧ Below w.heap.size w w' := by
  obtain ⟨j0, hj, jz0, jz1, jz2⟩ := info_parts Try.infoR
  obtain ⟨a, cap, hva, HC⟩ : ∃ a cap, v = .slice a n cap ∧ Hid (0 < n → ∃ b off, ∃ X : Nat → Value, a = some ⟨b, off, none⟩ ∧ b < w.heap.size ∧ ∀ i, i < n → w.cell? ⟨b, off + i, none⟩ = some (X i) ∧ Sl w (X i) (F i)) := by
    by_cases h0 : 0 < n
    · obtain ⟨b, off, cap, X, rfl, hb, hc⟩ := hv.open h0
      exact ⟨_, cap, rfl, Lib.hid fun _ => ⟨b, off, X, rfl, hb, hc⟩⟩
    · obtain ⟨a, cap, e⟩ := hv.form
      exact ⟨a, cap, e, Lib.hid fun h => absurd h h0⟩
  subst hva
  have HL := Lib.hid hl
  clear hv hl
  go_enter Try.func20, Try.ntmps20
  go_wp2_with (at_make; refine wpList_make_full _ rfl _ _ 34 rfl w.heap.size 25 j0 (.slice none 0 0) 1 Try.underlying34 hj jz0 jz1 .i64 .i64 _ _ n rfl rfl rfl rfl ?c3 ?c4 ?c5 ?_)
  case c3 => rw [jz2]; omega
  case c4 => unfold maxLen; omega
  case c5 => omega
  intro w1 hown hgrow
  have HR1 := Lib.hid (RS.made F hown)
  have hb : Below w.heap.size w w1 := (Below.refl _ _).grown hgrow (Nat.le_refl _) (fun k hk => by cases hk)
  have HW1 := Lib.hid hb
  have hgl1 : w.heap.size < w1.heap.size := (HR1.out.lt w.heap.size rfl).2
  clear hown hgrow hb
  go_wp2_with fail
  go_loopw [4] (fun vi wr => ∃ i : Nat, i ≤ n ∧ vi = .int .i64 i ∧ (∃ X, RS wr w.heap.size (.slice (some ⟨w.heap.size, 0, none⟩) n n) n (cutF F i) X) ∧ w.heap.size < wr.heap.size ∧ Below w.heap.size w wr) (fun vi _ => n - (intOf vi).toNat)
  case atStart => exact ⟨0, Nat.zero_le _, rfl, ⟨_, HR1.out⟩, hgl1, HW1.out⟩
  case round =>
    obtain ⟨i, hi, rfl, ⟨X, hr⟩, hgl, hb⟩ := hrel
    have HR := Lib.hid hr; clear hr
    have HB := Lib.hid hb; clear hb
    by_cases hlt : i < n
    · obtain ⟨b, off, Y, rfl, hbl, hcy⟩ := HC.out (by omega)
      have hci := (HB.out.cell (p := ⟨b, off + i, none⟩) hbl).trans (hcy i hlt).1
      have HX' := Lib.hid (toIntS_any (Y i) (F i) wr ((hcy i hlt).2.below HB.out (Nat.le_refl _)) (HL.out i hlt))
      have hbr : b < wr.heap.size := by omega
      obtain ⟨ay, cy, hyf⟩ := (hcy i hlt).2.form
      rw [hyf] at hci HX'
      have HCS := Lib.hid (cutF_step F i)
      clear hcy hyf
      generalize F i = l at *
      go_wp2_with fail
      refine HX'.out.mono ?_
      rintro e w2 ⟨u, rfl, hu, hb2⟩
      have hr2 := HR.out.below hb2
      have HB2 := Lib.hid (HB.out.trans (hb2.mono HB.out.size))
      have hz2 := hb2.size
      obtain ⟨g', cp', hv', _, _, hcx⟩ := hr2.form (by omega)
      cases hv'
      have hci2 := hcx i hlt
      have hfr := hr2.frozen i
      have HS := Lib.hid (hr2.stored hlt (hu.mono (by omega)) (fun j hj hji g' hg' e => by
        have h1 := (HR.out.ltX j hj g' hg').2
        have h2 := (hu.lt g' e).1
        omega))
      obtain ⟨a2, cp2, hu2⟩ := hu.sl.form
      subst hu2
      clear hr2 hu hb2 hcx
      go_wp2
      go_roundw
      case rel => exact ⟨i + 1, by omega, by go_num, ⟨_, by rw [← HCS.out]; exact HS.out⟩, by simp; omega, HB2.out.setCell (Nat.le_refl _) _⟩
      case measure => simp [intOf]; omega
    · obtain rfl : n = i := by omega
      go_wp2
      go_ret
      exact ⟨_, X, rfl, HR.out.all, HB.out⟩
end Go.Proofs.Ytimpgbifnijkkab
