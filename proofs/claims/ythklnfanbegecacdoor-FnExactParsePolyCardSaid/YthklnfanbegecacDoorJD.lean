/- PolyText, of the program and of the model, by contracts; the walk of its law. -/
import Derived.Test.YthklnfanbegecacDoorJC
import Derived.Test.YthklnfanbegecacDoorSH
import Derived.Test.YthklnfanbegecacDoorHK
namespace Go.Proofs.YthklnfanbegecacDoor
open Go.RowKit
theorem itoaB (x : Int) (h0 : 0 ≤ x) (h1 : x < 100) (w : World) : Calls Tryd.prog 24 #[.int .i64 x] w fun e w' => e = .returned (.string (bs (num x))) ∧ Below w.heap.size w w' := by
  obtain ⟨i, rfl⟩ := Int.eq_ofNat_of_zero_le h0
  refine (Tryd.strconv_Itoa_small i (by omega) w).mono fun e w' ⟨he, hw⟩ => ⟨?_, ?_⟩
  · rw [he]
    rfl
  · rw [hw]
    exact Below.refl _ _
theorem bs_back (l : List UInt8) : (bs l).data.toList = l := by simp [bs]
theorem joinB (f : Nat → Int) (n : Nat) : (⟨(Lib.join (((List.range n).map fun i => bs (num (f i))).map (·.data.toList)) (⟨#[44]⟩ : ByteArray).data.toList).toArray⟩ : ByteArray) = txtB f n := by
  have e : ((List.range n).map fun i => bs (num (f i))).map (·.data.toList) = (List.range n).map fun i => num (f i) := by
    rw [List.map_map]
    exact List.map_congr_left fun i _ => bs_back _
  rw [e]
  show bs (Lib.join ((List.range n).map fun i => num (f i)) [44]) = bs (txt f n)
  rw [txt_join]
set_option maxHeartbeats 2000000 in
/-- strings.Join of the texts of n numbers. -/
theorem joinE (g n : Nat) (f : Nat → Int) (w : World) (hg : g < w.heap.size) (hs : Strs w g (fun i => bs (num (f i))) n) (hf : ∀ i, i < n → 0 ≤ f i ∧ f i < 100) (hn : n ≤ 50) :
    Calls Tryd.prog 22 #[.slice (some ⟨g, 0, none⟩) n n, .string ⟨#[44]⟩] w fun e w' => e = .returned (.string (txtB f n)) ∧ Below w.heap.size w w' := by
  have hx : ((List.range n).map fun i => bs (num (f i))).length = n := by simp
  have hj := joinB f n
  have h := Tryd.strings_Join g 0 n ((List.range n).map fun i => bs (num (f i))) ⟨#[44]⟩ w (fun j x hjx => by
      rw [List.getElem?_map] at hjx
      obtain ⟨k, hk, rfl⟩ := Option.map_eq_some_iff.1 hjx
      obtain ⟨h1, h2⟩ := List.getElem?_eq_some_iff.1 hk
      rw [List.length_range] at h1
      rw [List.getElem_range] at h2
      subst h2
      rw [Nat.zero_add]
      exact hs j h1) hg (by rw [hx]; omega) (by rw [hx]; exact Nat.le_refl _) (by
      have e : ((List.range n).map fun i => bs (num (f i))).map (·.data.toList) = (List.range n).map fun i => num (f i) := by
        rw [List.map_map]
        exact List.map_congr_left fun i _ => bs_back _
      rw [e]
      show (Lib.join ((List.range n).map fun i => num (f i)) [44]).length ≤ _
      rw [txt_join]
      have := txt_len f n hf
      omega)
  rw [hx, hj] at h
  exact h
set_option maxHeartbeats 2000000 in
/-- impl.listText. -/
theorem listText_any (v : Value) (l : List Int) (w : World) (hv : Sl w v l) (hl : l.length ≤ 50) (hf : ∀ i, i < l.length → 0 ≤ l.getD i 0 ∧ l.getD i 0 < 100) :
    Calls Tryd.prog 13 #[v] w fun e w' => e = .returned (.string (if l.length = 0 then ⟨#[45]⟩ else txtB (fun i => l.getD i 0) l.length)) ∧ Below w.heap.size w w' := by
  by_cases h0 : l.length = 0
  · rw [if_pos h0]
    obtain ⟨a, cap, rfl⟩ := hv.form
    rw [h0]
    clear hv hf hl
    go_enter Tryd.func13, Tryd.ntmps13
    go_wp2
    go_ret
    exact ⟨rfl, Below.refl _ _⟩
  · rw [if_neg h0]
    have HM := Lib.hid (mappedIS v l (fun i => bs (num (l.getD i 0))) w hv (by omega) (fun i hi w' => itoaB _ (hf i hi).1 (hf i hi).2 w'))
    have HJ := Lib.hid (fun g w' (hg : g < w'.heap.size) (hs : Strs w' g (fun i => bs (num (l.getD i 0))) l.length) => joinE g l.length (fun i => l.getD i 0) w' hg hs hf hl)
    obtain ⟨a, cap, rfl⟩ := hv.form
    have hne : ¬ (l.length : Int) = 0 := by omega
    have hne' : ((l.length : Int) == 0) = false := by simpa using hne
    clear hv hf
    generalize txtB (fun i => l.getD i 0) l.length = S at *
    generalize (fun i => bs (num (l.getD i 0))) = f at *
    generalize l.length = n at *
    go_enter Tryd.func13, Tryd.ntmps13
    go_wp2_with fail
    refine HM.out.mono ?_
    rintro e w1 ⟨g, rfl, hg, hk, hs, hb1⟩
    have hgl := hk.lt
    have HS := Lib.hid hs; clear hs hk
    have HB1 := Lib.hid hb1; clear hb1
    go_wp2_with fail
    refine (HJ.out g _ hgl HS.out).mono ?_
    rintro e w2 ⟨rfl, hb2⟩
    have HB2 := Lib.hid hb2; clear hb2
    go_wp2
    go_ret
    have hb1 := HB1.out
    have hb2 := HB2.out
    exact ⟨rfl, hb1.trans (hb2.mono hb1.size)⟩
theorem good_nums {q : Int} {l : List Int} (h : isSz q = true) (hg : good q l = true) : ∀ i, i < l.length → 0 ≤ l.getD i 0 ∧ l.getD i 0 < 100 := fun i hi => by
  have hq := isSz_le q h
  have hx := List.all_eq_true.1 (good_parts hg).2 (l.getD i 0) (by rw [show l.getD i 0 = l[i] by simp [List.getD, hi]]; exact List.getElem_mem hi)
  simp only [inF, Bool.and_eq_true, decide_eq_true_eq] at hx
  omega
theorem slTell {w : World} {v : Value} {l : List Int} (h : Sl w v l) : Sl w v (fl (fun i => l.getD i 0) l.length) := by rw [← fl_of]; exact h
end Go.Proofs.YthklnfanbegecacDoor
