/- Words read back, of the model: spec.l1Read by a contract. -/
import Derived.Test.YthklnfanbegecacDoorJE
import Derived.Test.YthklnfanbegecacDoorK
import Derived.Deep.RegionHeld3
namespace Go.Proofs.YthklnfanbegecacDoor
open Go.RowKit
/-- A string of bytes, as it is read. -/
def bt (l : List UInt8) : ByteArray := ⟨l.toArray⟩
theorem bt_size (l : List UInt8) : (bt l).size = l.length := by simp [bt, ByteArray.size]
theorem bt_get (l : List UInt8) (i : Nat) (h : i < (bt l).size) : (bt l)[i]'h = l.getD i 0 := by
  rw [bt_size] at h
  simp [bt, ByteArray.getElem_eq_getElem_data, List.getD, h]
theorem rdv_step (l : List UInt8) (i : Nat) (h : i < l.length) (v : Int) : rdv (l.drop i) v = if (l.getD i 0).toNat < 48 ∨ 57 < (l.getD i 0).toNat then -1 else rdv (l.drop (i + 1)) (10 * v + (((l.getD i 0).toNat : Int) - 48)) := by
  rw [List.drop_eq_getElem_cons h, show l.getD i 0 = l[i] by simp [List.getD, h]]
  rfl
theorem pow_lt6 (i : Nat) (h : i ≤ 6) (v : Int) (hv : v < 10 ^ i) : v < 1000000 := by
  have : i = 0 ∨ i = 1 ∨ i = 2 ∨ i = 3 ∨ i = 4 ∨ i = 5 ∨ i = 6 := by omega
  rcases this with rfl | rfl | rfl | rfl | rfl | rfl | rfl <;> omega
set_option maxRecDepth 100000 in
set_option maxHeartbeats 4000000 in
/-- The digits of a word. -/
theorem l1Read_digits (l : List UInt8) (w : World) (h1 : 1 ≤ l.length) (h6 : l.length ≤ 6) (hz : ¬ (l.headD 0 = 48 ∧ 1 < l.length)) :
    Calls Tryd.prog 16 #[.string (bt l)] w fun e w' => e = .returned (.int .i64 (rdv l 0)) ∧ Below w.heap.size w w' := by
  have hsz := bt_size l
  have HI := Lib.hid (show ∀ w, Calls Tryd.prog 26 #[.int .i64 (l.length : Int), .int .i64 1, .int .i64 6] w fun e w' => e = .returned (.bool true) ∧ w = w' from fun w => by
    have h := l1In_any (l.length : Int) 1 6 w
    have h2 : (decide ((1 : Int) ≤ (l.length : Int)) && decide ((l.length : Int) ≤ 6)) = true := by simp; omega
    rw [h2] at h
    exact h)
  have HG := Lib.hid (fun i h => bt_get l i h)
  have HR := Lib.hid (fun i h v => rdv_step l i h v)
  have HE : Hid (∀ v, rdv (l.drop l.length) v = v) := Lib.hid fun v => by rw [List.drop_length]; rfl
  have H00 : Hid (rdv (l.drop 0) 0 = rdv l 0) := Lib.hid rfl
  have HZZ : Hid ((l.getD 0 0).toNat = 48 → ¬ 1 < l.length) := Lib.hid fun e h => hz ⟨by
    cases l with
    | nil => simp at h1
    | cons c r => simp at e ⊢; exact UInt8.toNat_inj.1 e, h⟩
  clear hz
  have h0s : 0 < (bt l).size := by omega
  have hg0 := HG.out 0 h0s
  generalize hc0 : l.getD 0 0 = c0 at *
  clear hc0
  generalize l.length = n at *
  generalize bt l = s at *
  have hlt0 : (0 : Int) < (n : Int) := by omega
  by_cases hc : c0.toNat = 48
  · have hn1 : ¬ 1 < n := HZZ.out hc
    have hc' : ((c0.toNat : Int) == 48) = true := by simp; omega
    have hn1' : ¬ (1 : Int) < (n : Int) := by omega
    go_enter Tryd.func16, Tryd.ntmps16
    go_wp2_with fail
    refine (HI.out _).mono ?_
    rintro e w1 ⟨rfl, rfl⟩
    go_wp2_with fail
    go_loopw [3, 4] (fun vn vi wr => ∃ (i : Nat) (v : Int), i ≤ n ∧ vi = .int .i64 i ∧ vn = .int .i64 v ∧ 0 ≤ v ∧ v < 10 ^ i ∧ rdv (l.drop i) v = rdv l 0 ∧ wr = w) (fun _ vi _ => n - (intOf vi).toNat)
    case atStart => exact ⟨0, 0, Nat.zero_le _, rfl, rfl, Int.le_refl _, by decide, H00.out, rfl⟩
    case round =>
      obtain ⟨i, v, hi, rfl, rfl, hv0, hv1, hrd, rfl⟩ := hrel
      have hv6 : v < 1000000 := pow_lt6 i (by omega) v hv1
      by_cases hlt : i < n
      · have his : i < s.size := by omega
        have hgi := HG.out i his
        have hri := HR.out i hlt v
        rw [hrd] at hri
        generalize hcg : l.getD i 0 = c at *
        clear hcg
        have hlt' : (i : Int) < (n : Int) := by omega
        have hc9 := UInt8.toNat_lt c
        by_cases h48 : c.toNat < 48
        · rw [if_pos (Or.inl h48)] at hri
          have HF := Lib.hid hri
          have h48' : (c.toNat : Int) < 48 := by omega
          clear hri hrd
          go_wp2
          go_ret
          exact ⟨by rw [HF.out]; rfl, Below.refl _ _⟩
        · by_cases h57 : 57 < c.toNat
          · rw [if_pos (Or.inr h57)] at hri
            have HF := Lib.hid hri
            have h48' : ¬ (c.toNat : Int) < 48 := by omega
            have h57' : (57 : Int) < (c.toNat : Int) := by omega
            clear hri hrd
            go_wp2
            go_ret
            exact ⟨by rw [HF.out]; rfl, Below.refl _ _⟩
          · rw [if_neg (by omega)] at hri
            have HF := Lib.hid hri.symm
            have h48' : ¬ (c.toNat : Int) < 48 := by omega
            have h57' : ¬ (57 : Int) < (c.toNat : Int) := by omega
            have hw8 : IntKind.u8.wrap ((c.toNat : Int) - 48) = (c.toNat : Int) - 48 := by rw [IntKind.wrap_u8]; omega
            have hpw : (10 : Int) ^ (i + 1) = 10 * 10 ^ i := by rw [Int.pow_succ]; omega
            clear hri hrd
            go_wp2
            go_roundw
            case rel => exact ⟨i + 1, 10 * v + ((c.toNat : Int) - 48), by omega, by go_num, by go_num, by omega, by omega, HF.out, by first | rfl | trivial⟩
            case measure => (simp [intOf]; try omega)
      · obtain rfl : n = i := by omega
        have HF := Lib.hid hrd
        have HEE := Lib.hid (HE.out v)
        clear hrd
        go_wp2
        go_ret
        exact ⟨by rw [← HF.out, HEE.out]; rfl, Below.refl _ _⟩
  · have hc' : ((c0.toNat : Int) == 48) = false := by simp; omega
    go_enter Tryd.func16, Tryd.ntmps16
    go_wp2_with fail
    refine (HI.out _).mono ?_
    rintro e w1 ⟨rfl, rfl⟩
    go_wp2_with fail
    go_loopw [3, 4] (fun vn vi wr => ∃ (i : Nat) (v : Int), i ≤ n ∧ vi = .int .i64 i ∧ vn = .int .i64 v ∧ 0 ≤ v ∧ v < 10 ^ i ∧ rdv (l.drop i) v = rdv l 0 ∧ wr = w) (fun _ vi _ => n - (intOf vi).toNat)
    case atStart => exact ⟨0, 0, Nat.zero_le _, rfl, rfl, Int.le_refl _, by decide, H00.out, rfl⟩
    case round =>
      obtain ⟨i, v, hi, rfl, rfl, hv0, hv1, hrd, rfl⟩ := hrel
      have hv6 : v < 1000000 := pow_lt6 i (by omega) v hv1
      by_cases hlt : i < n
      · have his : i < s.size := by omega
        have hgi := HG.out i his
        have hri := HR.out i hlt v
        rw [hrd] at hri
        generalize hcg : l.getD i 0 = c at *
        clear hcg
        have hlt' : (i : Int) < (n : Int) := by omega
        have hc9 := UInt8.toNat_lt c
        by_cases h48 : c.toNat < 48
        · rw [if_pos (Or.inl h48)] at hri
          have HF := Lib.hid hri
          have h48' : (c.toNat : Int) < 48 := by omega
          clear hri hrd
          go_wp2
          go_ret
          exact ⟨by rw [HF.out]; rfl, Below.refl _ _⟩
        · by_cases h57 : 57 < c.toNat
          · rw [if_pos (Or.inr h57)] at hri
            have HF := Lib.hid hri
            have h48' : ¬ (c.toNat : Int) < 48 := by omega
            have h57' : (57 : Int) < (c.toNat : Int) := by omega
            clear hri hrd
            go_wp2
            go_ret
            exact ⟨by rw [HF.out]; rfl, Below.refl _ _⟩
          · rw [if_neg (by omega)] at hri
            have HF := Lib.hid hri.symm
            have h48' : ¬ (c.toNat : Int) < 48 := by omega
            have h57' : ¬ (57 : Int) < (c.toNat : Int) := by omega
            have hw8 : IntKind.u8.wrap ((c.toNat : Int) - 48) = (c.toNat : Int) - 48 := by rw [IntKind.wrap_u8]; omega
            have hpw : (10 : Int) ^ (i + 1) = 10 * 10 ^ i := by rw [Int.pow_succ]; omega
            clear hri hrd
            go_wp2
            go_roundw
            case rel => exact ⟨i + 1, 10 * v + ((c.toNat : Int) - 48), by omega, by go_num, by go_num, by omega, by omega, HF.out, by first | rfl | trivial⟩
            case measure => (simp [intOf]; try omega)
      · obtain rfl : n = i := by omega
        have HF := Lib.hid hrd
        have HEE := Lib.hid (HE.out v)
        clear hrd
        go_wp2
        go_ret
        exact ⟨by rw [← HF.out, HEE.out]; rfl, Below.refl _ _⟩
set_option maxRecDepth 100000 in
/-- spec.l1Read. -/
theorem l1Read_any (l : List UInt8) (w : World) (hl : l.length ≤ 1048576) :
    Calls Tryd.prog 16 #[.string (bt l)] w fun e w' => e = .returned (.int .i64 (rd l)) ∧ Below w.heap.size w w' := by
  by_cases h : l.length < 1 ∨ 6 < l.length ∨ (l.headD 0 = 48 ∧ 1 < l.length)
  · have hr : rd l = -1 := by unfold rd; rw [if_pos h]
    rw [hr]
    have hsz := bt_size l
    by_cases h1 : l.length < 1 ∨ 6 < l.length
    · have HI := Lib.hid (show ∀ w, Calls Tryd.prog 26 #[.int .i64 (l.length : Int), .int .i64 1, .int .i64 6] w fun e w' => e = .returned (.bool false) ∧ w = w' from fun w => by
        have h := l1In_any (l.length : Int) 1 6 w
        have h2 : (decide ((1 : Int) ≤ (l.length : Int)) && decide ((l.length : Int) ≤ 6)) = false := by simp; omega
        rw [h2] at h
        exact h)
      clear h h1 hr
      generalize l.length = n at *
      generalize bt l = s at *
      subst hsz
      go_enter Tryd.func16, Tryd.ntmps16
      go_wp2_with fail
      refine (HI.out _).mono ?_
      rintro e w1 ⟨rfl, rfl⟩
      go_wp2
      go_ret
      exact ⟨rfl, Below.refl _ _⟩
    · obtain ⟨h2, h3⟩ : l.headD 0 = 48 ∧ 1 < l.length := by
        rcases h with h | h | h
        · exact absurd (.inl h) h1
        · exact absurd (.inr h) h1
        · exact h
      have HI := Lib.hid (show ∀ w, Calls Tryd.prog 26 #[.int .i64 (l.length : Int), .int .i64 1, .int .i64 6] w fun e w' => e = .returned (.bool true) ∧ w = w' from fun w => by
        have h := l1In_any (l.length : Int) 1 6 w
        have h2 : (decide ((1 : Int) ≤ (l.length : Int)) && decide ((l.length : Int) ≤ 6)) = true := by simp; omega
        rw [h2] at h
        exact h)
      have h0s : 0 < (bt l).size := by omega
      have hg0 := bt_get l 0 h0s
      have hc0 : (l.getD 0 0).toNat = 48 := by
        cases l with
        | nil => simp at h3
        | cons c r => simp at h2 ⊢; rw [h2]; rfl
      clear h h1 h2 hr
      generalize l.getD 0 0 = c0 at *
      have hc' : ((c0.toNat : Int) == 48) = true := by simp; omega
      generalize l.length = n at *
      generalize bt l = s at *
      subst hsz
      have hn1 : (1 : Int) < (s.size : Int) := by omega
      go_enter Tryd.func16, Tryd.ntmps16
      go_wp2_with fail
      refine (HI.out _).mono ?_
      rintro e w1 ⟨rfl, rfl⟩
      go_wp2
      go_ret
      exact ⟨rfl, Below.refl _ _⟩
  · have hr : rd l = rdv l 0 := by unfold rd; rw [if_neg h]
    rw [hr]
    exact l1Read_digits l w (by omega) (by omega) (fun e => h (.inr (.inr e)))
end Go.Proofs.YthklnfanbegecacDoor
