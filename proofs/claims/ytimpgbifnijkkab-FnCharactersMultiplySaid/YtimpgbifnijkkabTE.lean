/- impl.field.sumOver at each of its summands, by contracts. -/
import Derived.Test.YtimpgbifnijkkabKH
import Derived.Deep.RegionWith
namespace Go.Proofs.Ytimpgbifnijkkab
open Go.RowKit
/-- A sum of small numbers. -/
def csm (c : Nat → Int) : Nat → Int
  | 0 => 0
  | n + 1 => csm c n + c n
theorem csm_bd {c : Nat → Int} (h : ∀ i, -1 ≤ c i ∧ c i ≤ 1) : ∀ n : Nat, -(n : Int) ≤ csm c n ∧ csm c n ≤ (n : Int)
  | 0 => ⟨Int.le_refl _, Int.le_refl _⟩
  | n + 1 => by
    have h1 := csm_bd h n
    have h2 := h n
    show -((n + 1 : Nat) : Int) ≤ csm c n + c n ∧ csm c n + c n ≤ ((n + 1 : Nat) : Int)
    omega
theorem csm_congr {c d : Nat → Int} : ∀ n, (∀ i, i < n → c i = d i) → csm c n = csm d n
  | 0, _ => rfl
  | n + 1, h => by
    show csm c n + c n = csm d n + d n
    rw [csm_congr n (fun i hi => h i (by omega)), h n (by omega)]
set_option maxRecDepth 100000 in
set_option maxHeartbeats 4000000 in
/-- impl.field.sumOver at impl.valueCharacters. -/
theorem sumOver_V (m : Nat) (v : Value) (c : Nat → Int) (w : World) (h : isSz (m : Int) = true) (hc : ∀ i, -1 ≤ c i ∧ c i ≤ 1)
    (HC : ∀ i : Nat, i < m → ∀ w', Below w.heap.size w w' → Calls Try.prog 185 #[v, elE (m : Int) (i : Int)] w' fun e w'' => e = .returned (.int .i64 (c i)) ∧ Below w'.heap.size w' w'') :
    Calls Try.prog 122 #[fdE (m : Int), .iface 127 v] w fun e w' => e = .returned (.int .i64 (csm c m)) ∧ Below w.heap.size w w' := by
  have hq := isSz_le (m : Int) h
  have HE := Lib.hid (fun w => elements_any (m : Int) w h)
  rw [Int.toNat_natCast] at HE
  have HM : Hid (∀ w, (Go.method (Try.prog.types.size + Made.depth) 127 v "loop.example/g01163/impl.amountAt").run Try.prog w = .ok (185, v) w) := Lib.hid fun w => by kernel_rfl
  have HCC := Lib.hid HC
  have HSB := Lib.hid (csm_bd hc)
  have HCB := Lib.hid hc
  have HSU : Hid (∀ n, csm c (n + 1) = csm c n + c n) := Lib.hid fun _ => rfl
  have HS0 : Hid (csm c 0 = 0) := Lib.hid rfl
  clear h HC hc
  go_enter Try.func122, Try.ntmps122
  go_wp2_with fail
  refine (HE.out _).mono ?_
  rintro e w1 ⟨g, cp, rfl, hg, hkb, hel, hb1⟩
  simp at hg
  have hgl := hkb.lt
  have HEL := Lib.hid hel
  have HB1 : Hid (Below w.heap.size w w1) := Lib.hid (by (repeat' (first | (with_reducible assumption) | (with_reducible exact Below.refl _ _) | (with_reducible refine below_drewN ?_ _) | (with_reducible refine Below.drew ?_) | (with_reducible refine Below.alloc ?_ ?_ _) | (with_reducible refine Below.setCell ?_ ?_ _) | (with_reducible refine Below.trans ?_ (Below.mono (by assumption) ?_)) | (with_reducible exact Nat.le_refl _) | (with_reducible assumption) | omega | (simp; omega) | (simp; done))))
  clear hkb hel hb1
  go_wp2_with fail
  go_loopw [5, 11] (fun vs vi wr => ∃ i : Nat, i ≤ m ∧ vi = .int .i64 i ∧ vs = .int .i64 (csm c i) ∧ Els wr g (m : Int) (fun j => (j : Int)) m ∧ g < wr.heap.size ∧ Below w.heap.size w wr) (fun _ vi _ => m - (intOf vi).toNat)
  case atStart => exact ⟨0, Nat.zero_le _, rfl, by rw [HS0.out], HEL.out, hgl, HB1.out⟩
  case round =>
    obtain ⟨i, him, rfl, rfl, he, hgr, hb⟩ := hrel
    have hzb := hb.size
    by_cases hlt : i < m
    · obtain ⟨c0, c1, c2, c3, c4, c5, c6⟩ := he i hlt
      have HC' : Hid (∀ w', Below w.heap.size w w' → Calls Try.prog 185 #[v, elE (m : Int) (i : Int)] w' fun e w'' => e = .returned (.int .i64 (c i)) ∧ Below w'.heap.size w' w'') := Lib.hid (HCC.out i hlt)
      have b1 := HSB.out i
      have b2 := HCB.out i
      have HSS := Lib.hid (HSU.out i)
      have HEE := Lib.hid he
      have HB := Lib.hid hb
      clear he hb
      obtain ⟨y, hy⟩ : ∃ y, c i = y := ⟨_, rfl⟩
      rw [hy] at HC' b2 HSS
      clear hy
      generalize csm c i = s at *
      have hwr : IntKind.i64.wrap (s + y) = s + y := IntWalk.i64_in _ (by omega)
      go_wp2_with (first | (simp only [HM.out, Result.andThen_ok]) | fail)
      refine (HC'.out _ (by have hb := HB.out; (repeat' (first | (with_reducible assumption) | (with_reducible exact Below.refl _ _) | (with_reducible refine below_drewN ?_ _) | (with_reducible refine Below.drew ?_) | (with_reducible refine Below.alloc ?_ ?_ _) | (with_reducible refine Below.setCell ?_ ?_ _) | (with_reducible refine Below.trans ?_ (Below.mono (by assumption) ?_)) | (with_reducible exact Nat.le_refl _) | (with_reducible assumption) | omega | (simp; omega) | (simp; done))))).mono ?_
      rintro e w5 ⟨rfl, hb5⟩
      have hbz : Below wr.heap.size wr w5 := by (repeat' (first | (with_reducible assumption) | (with_reducible exact Below.refl _ _) | (with_reducible refine below_drewN ?_ _) | (with_reducible refine Below.drew ?_) | (with_reducible refine Below.alloc ?_ ?_ _) | (with_reducible refine Below.setCell ?_ ?_ _) | (with_reducible refine Below.trans ?_ (Below.mono (by assumption) ?_)) | (with_reducible exact Nat.le_refl _) | (with_reducible assumption) | omega | (simp; omega) | (simp; done)))
      have hz5 := hbz.size
      have HE5 := Lib.hid (HEE.out.below hbz hgr)
      have HB5 : Hid (Below w.heap.size w w5) := Lib.hid (HB.out.trans (hbz.mono hzb))
      clear hb5 hbz c0 c1 c2 c3 c4 c5 c6 HC' HEE HB
      go_wp2
      go_roundw
      case rel => exact ⟨i + 1, by omega, by go_num, by rw [HSS.out], HE5.out, by omega, HB5.out⟩
      case measure => simp [intOf]; omega
    · obtain rfl : m = i := by omega
      have HB := Lib.hid hb
      clear he hb
      go_wp2
      go_ret
      exact ⟨rfl, HB.out⟩
set_option maxRecDepth 100000 in
set_option maxHeartbeats 4000000 in
/-- impl.valueCharacters.amountAt. -/
theorem amountV (m g n cp : Nat) (a y r : Int) (A : Array Value) (w : World)
    (HX : ∀ w', Below w.heap.size w w' → Calls Try.prog 79 #[.agg #[.int .i64 (m : Int), .int .i64 (pr m), .int .i64 (pl m), .slice (some ⟨g, 0, none⟩) n cp], elE (m : Int) a] w' fun e w'' => e = .returned (elE (m : Int) y) ∧ Below w'.heap.size w' w'')
    (HO : ∀ w', Calls Try.prog 59 #[.agg A, elE (m : Int) y] w' fun e w'' => e = .returned (.int .i64 r) ∧ Below w'.heap.size w' w'') :
    Calls Try.prog 185 #[.agg #[.int .i64 (m : Int), .int .i64 (pr m), .int .i64 (pl m), .slice (some ⟨g, 0, none⟩) n cp, .func (.func 59) #[.agg A] #[]], elE (m : Int) a] w fun e w' => e = .returned (.int .i64 r) ∧ Below w.heap.size w w' := by
  have HXX := Lib.hid HX
  have HOO := Lib.hid HO
  clear HX HO
  go_enter Try.func185, Try.ntmps185
  go_wp2_with fail
  go_region_with (first
    | (go_at_call 79; refine (HXX.out _ (by (repeat' (first | (with_reducible assumption) | (with_reducible exact Below.refl _ _) | (with_reducible refine below_drewN ?_ _) | (with_reducible refine Below.drew ?_) | (with_reducible refine Below.alloc ?_ ?_ _) | (with_reducible refine Below.setCell ?_ ?_ _) | (with_reducible refine Below.trans ?_ (Below.mono (by assumption) ?_)) | (with_reducible exact Nat.le_refl _) | (with_reducible assumption) | omega | (simp; omega) | (simp; done))))).mono ?_; rintro e w3 ⟨rfl, hb3⟩; obtain ⟨hc3, hf3⟩ := bcell hb3; (try simp only [World.size_drew] at hc3 hf3); have hz3 := hb3.size; (try simp at hz3); have HB3 := Lib.hid hb3; clear hb3; have l3 : w.heap.size + 1 < w3.heap.size := (by omega))
    | (go_at_call 59; refine (HOO.out _).mono ?_; rintro e w4 ⟨rfl, hb4⟩; obtain ⟨hc4, hf4⟩ := bcell hb4; (try simp only [World.size_drew] at hc4 hf4); have hz4 := hb4.size; (try simp at hz4); have HB4 := Lib.hid hb4; clear hb4))
  all_goals
    go_wp2
    go_ret
    have hb3 := HB3.out
    have hb4 := HB4.out
    exact ⟨rfl, by (repeat' (first | (with_reducible assumption) | (with_reducible exact Below.refl _ _) | (with_reducible refine below_drewN ?_ _) | (with_reducible refine Below.drew ?_) | (with_reducible refine Below.alloc ?_ ?_ _) | (with_reducible refine Below.setCell ?_ ?_ _) | (with_reducible refine Below.trans ?_ (Below.mono (by assumption) ?_)) | (with_reducible exact Nat.le_refl _) | (with_reducible assumption) | omega | (simp; omega) | (simp; done)))⟩
end Go.Proofs.Ytimpgbifnijkkab
