/- Texts split at commas, of the model: spec.l1Split by a contract; slices of strings that the call itself makes. -/
import Derived.Test.YthklnfanbegecacDoorJF
import Derived.Test.YthklnfanbegecacDoorJC
namespace Go.Proofs.YthklnfanbegecacDoor
open Go.RowKit
/-- v is a slice that holds the strings l, in memory of blocks from B on that is written by nobody else. -/
def RowS (w : World) (B : Nat) (v : Value) (l : List ByteArray) : Prop := w.ownsRow B 9 1 v l.length (l.map Value.string)
theorem RowS.nil (w : World) (B : Nat) : RowS w B (.slice none 0 0) [] := World.ownsRow_nil _ _ _ _
theorem RowS.lt {w : World} {B : Nat} {v : Value} {l : List ByteArray} (h : RowS w B v l) : ∀ g, v.ownBlock = some g → B ≤ g ∧ g < w.heap.size := World.ownsRow.lt h
theorem RowS.appended {w : World} {B : Nat} {v' : Value} {l : List ByteArray} {x : ByteArray} (h : w.ownsRow B 9 1 v' (l.length + 1) (l.map Value.string ++ [.string x])) : RowS w B v' (l ++ [x]) := by
  unfold RowS
  simpa using h
theorem RowS.form {w : World} {B : Nat} {v : Value} {l : List ByteArray} (h : RowS w B v l) (hl : 0 < l.length) : ∃ g cap, v = .slice (some ⟨g, 0, none⟩) l.length cap ∧ B ≤ g ∧ g < w.heap.size := by
  rcases h.2 with ⟨_, h0⟩ | ⟨g, cap, cur, hv, hb, hg, _⟩
  · omega
  · exact ⟨g, cap, hv, hb, (Array.getElem?_eq_some_iff.1 hg).1⟩
theorem RowS.cell {w : World} {B g cap : Nat} {l : List ByteArray} (h : RowS w B (.slice (some ⟨g, 0, none⟩) l.length cap) l) (i : Nat) (hi : i < l.length) : w.cell? ⟨g, i, none⟩ = some (.string l[i]) := by
  rw [World.ownsRow.cellAt h i (by omega), List.getElem?_map, List.getElem?_eq_getElem hi]
  rfl
theorem RowS.keep {w w' : World} {B : Nat} {v : Value} {l : List ByteArray} (h : RowS w B v l) (hk : ∀ g, v.ownBlock = some g → w'.heap[g]? = w.heap[g]?) : RowS w' B v l := by
  refine ⟨h.1, ?_⟩
  rcases h.2 with hn | ⟨g, cap, cur, rfl, hb, hg, r⟩
  · exact .inl hn
  · exact .inr ⟨g, cap, cur, rfl, hb, (hk g rfl).trans hg, r⟩
theorem RowS.below {w w' : World} {B : Nat} {v : Value} {l : List ByteArray} (h : RowS w B v l) (hb : Below w.heap.size w w') : RowS w' B v l :=
  h.keep fun g hg => hb.block g (h.lt g hg).2
theorem bt_extract (l : List UInt8) (a b : Nat) : (bt l).extract a b = bt ((l.drop a).take (b - a)) := by
  unfold bt
  apply ByteArray.ext
  simp
theorem cut_at (l : List UInt8) (f i : Nat) (hf : f ≤ i) (hi : i < l.length) (hc : l.getD i 0 = 44) (hd : Dry ((l.drop f).take (i - f))) : spl (l.drop f) = (l.drop f).take (i - f) :: spl (l.drop (i + 1)) := by
  have e : l.drop f = (l.drop f).take (i - f) ++ 44 :: l.drop (i + 1) := by
    conv => lhs; rw [← List.take_append_drop (i - f) (l.drop f)]
    congr 1
    rw [List.drop_drop, show f + (i - f) = i by omega, List.drop_eq_getElem_cons hi]
    congr 1
    simpa [List.getD, hi] using hc
  conv => lhs; rw [e]
  rw [spl_app, spl_dry _ hd]
  rfl
theorem dry_more (l : List UInt8) (f i : Nat) (hf : f ≤ i) (hi : i < l.length) (hc : l.getD i 0 ≠ 44) (hd : Dry ((l.drop f).take (i - f))) : Dry ((l.drop f).take (i + 1 - f)) := by
  rw [show i + 1 - f = (i - f) + 1 by omega, List.take_add_one]
  intro c h
  rcases List.mem_append.1 h with h | h
  · exact hd c h
  · rw [List.getElem?_drop, show f + (i - f) = i by omega, List.getElem?_eq_getElem hi] at h
    simp at h
    rw [h]
    simpa [List.getD, hi] using hc
theorem spl_le (l : List UInt8) : (spl l).length ≤ l.length + 1 := by
  induction l with
  | nil => simp [spl]
  | cons c r ih =>
    unfold spl
    split
    · simp; omega
    · have := spl_len r
      simp; omega
set_option maxRecDepth 100000 in
set_option maxHeartbeats 4000000 in
/-- spec.l1Split at commas. -/
theorem l1Split_any (l : List UInt8) (w : World) (hl : l.length ≤ 1048576) :
    Calls Tryd.prog 15 #[.string (bt l), .int .u8 44] w fun e w' => ∃ v, e = .returned v ∧ RowS w' w.heap.size v ((spl l).map bt) ∧ Below w.heap.size w w' := by
  obtain ⟨i0, hi, iz0, iz1, iz2⟩ := info_parts Tryd.infoS
  have hsz := bt_size l
  have HG := Lib.hid (fun i h => bt_get l i h)
  have HEX := Lib.hid (fun a b => bt_extract l a b)
  have HCUT := Lib.hid (fun f i hf hi hc hd => cut_at l f i hf hi hc hd)
  have HDM := Lib.hid (fun f i hf hi hc hd => dry_more l f i hf hi hc hd)
  have HEND : Hid (∀ f, f ≤ l.length → Dry ((l.drop f).take (l.length - f)) → spl (l.drop f) = [(l.drop f).take (l.length - f)]) := Lib.hid fun f hf hd => by
    rw [List.take_of_length_le (by simp)] at hd ⊢
    exact spl_dry _ hd
  have H0 : Hid (([] : List (List UInt8)) ++ spl (l.drop 0) = spl l) := Lib.hid rfl
  have HD0 : Hid (Dry ((l.drop 0).take (0 - 0))) := Lib.hid fun c hc => by simp at hc
  have HGD : Hid (∀ i, i < l.length → (l.getD i 0).toNat = 44 → l.getD i 0 = 44) := Lib.hid fun i _ e => UInt8.toNat_inj.1 e
  generalize hn : l.length = n at *
  generalize bt l = s at *
  subst hsz
  go_enter Tryd.func15, Tryd.ntmps15
  go_wp2_with fail
  go_loopw [5, 6, 7] (fun vo vf vi wr => ∃ (i f : Nat) (ws : List (List UInt8)), f ≤ i ∧ i ≤ s.size ∧ vi = .int .i64 i ∧ vf = .int .i64 f ∧ ws ++ spl (l.drop f) = spl l ∧ Dry ((l.drop f).take (i - f)) ∧ ws.length ≤ f ∧ RowS wr w.heap.size vo (ws.map bt) ∧ Below w.heap.size w wr) (fun _ _ vi _ => s.size - (intOf vi).toNat)
  case atStart => exact ⟨0, 0, [], Nat.le_refl _, Nat.zero_le _, rfl, rfl, H0.out, HD0.out, Nat.le_refl _, RowS.nil _ _, Below.refl _ _⟩
  case round =>
    obtain ⟨i, f, ws, hfi, hin, rfl, rfl, hws, hdry, hwl, hrow, hbel⟩ := hrel
    have HWS := Lib.hid hws; clear hws
    have HDRY := Lib.hid hdry; clear hdry
    have HR := Lib.hid hrow; clear hrow
    have HB := Lib.hid hbel; clear hbel
    have hbz := HB.out.size
    have hlen : (ws.map bt).length = ws.length := by simp
    generalize hL : ws.map bt = L at *
    have HL := Lib.hid hL; clear hL
    by_cases hlt : i < s.size
    · have hgi := HG.out i hlt
      have hgd := HGD.out i hlt
      generalize hcg : l.getD i 0 = c at *
      have HCG := Lib.hid hcg; clear hcg
      have hc9 := UInt8.toNat_lt c
      by_cases hc : c.toNat = 44
      · have hc' : ((c.toNat : Int) == 44) = true := by simp; omega
        have HCC := Lib.hid (hgd hc)
        clear hgd
        go_wp2_with (at_builtin; refine wpList_append_own _ rfl _ _ 36 rfl w.heap.size 9 i0 (.string ⟨#[]⟩) 1 16 Tryd.underlying36 hi iz0 iz1 iz2 rfl (by decide) _ _ _ rfl (World.ownsRow.alloc HR.out _) ⟨wr.heap.size, 0, none⟩ 1 1 [.string (s.extract f i)] rfl rfl ?c1 ?c2 ?c3 ?c4 ?c5 ?_)
        case c1 => exact cell_one_new _ _ _
        case c2 => intro u hu; simp at hu; subst hu; rfl
        case c3 => unfold maxLen; omega
        case c4 => omega
        case c5 => simp; omega
        intro v' w1 hown hgrow _
        have HR1 := Lib.hid (RowS.appended (l := L) (by rw [hlen]; exact hown))
        have HB1 := Lib.hid ((HB.out.alloc hbz (.cells #[.string (s.extract f i)] 9)).grown hgrow (by simp; omega) (fun g hg => (HR.out.lt g hg).1))
        clear hown hgrow
        go_wp2
        go_roundw
        case rel =>
          refine ⟨i + 1, i + 1, ws ++ [(l.drop f).take (i - f)], Nat.le_refl _, by omega, by go_num, by go_num, ?_, ?_, by simp; omega, ?_, HB1.out⟩
          · rw [← HWS.out, HCUT.out f i hfi hlt (by rw [HCG.out]; exact HCC.out) HDRY.out]
            simp
          · intro c hc
            simp at hc
          · have := HR1.out
            rw [HEX.out, ← HL.out] at this
            simpa using this
        case measure => simp [intOf]; omega
      · have hc' : ((c.toNat : Int) == 44) = false := by simp; omega
        clear hgd
        go_wp2
        go_roundw
        case rel =>
          exact ⟨i + 1, f, ws, by omega, by omega, by go_num, by go_num, HWS.out, HDM.out f i hfi hlt (by rw [HCG.out]; intro e; exact hc (by rw [e]; rfl)) HDRY.out, hwl, by rw [HL.out]; exact HR.out, HB.out⟩
        case measure => simp [intOf]; omega
    · obtain rfl : s.size = i := by omega
      go_wp2_with (at_builtin; refine wpList_append_own _ rfl _ _ 36 rfl w.heap.size 9 i0 (.string ⟨#[]⟩) 1 16 Tryd.underlying36 hi iz0 iz1 iz2 rfl (by decide) _ _ _ rfl (World.ownsRow.alloc HR.out _) ⟨wr.heap.size, 0, none⟩ 1 1 [.string (s.extract f s.size)] rfl rfl ?d1 ?d2 ?d3 ?d4 ?d5 ?_)
      case d1 => exact cell_one_new _ _ _
      case d2 => intro u hu; simp at hu; subst hu; rfl
      case d3 => unfold maxLen; omega
      case d4 => omega
      case d5 => simp; omega
      intro v' w1 hown hgrow _
      have HR1 := Lib.hid (RowS.appended (l := L) (by rw [hlen]; exact hown))
      have HB1 := Lib.hid ((HB.out.alloc hbz (.cells #[.string (s.extract f s.size)] 9)).grown hgrow (by simp; omega) (fun g hg => (HR.out.lt g hg).1))
      clear hown hgrow
      go_wp2
      go_ret
      refine ⟨_, rfl, ?_, HB1.out⟩
      have := HR1.out
      rw [HEX.out, ← HL.out] at this
      rw [← HWS.out, HEND.out f hfi HDRY.out]
      simpa using this
end Go.Proofs.YthklnfanbegecacDoor
