/- impl.elementOf where it fails; impl.pairOf by contracts. -/
import Derived.Test.YthklnfanbegecacK
namespace Go.Proofs.Ythklnfanbegecac
open Go.RowKit

set_option maxHeartbeats 1000000 in
/-- impl.elementOf elsewhere. -/
theorem elementOf_no (q a : Int) (w : World) (h : inE q a = false) :
    Calls Try.prog 38 #[.int .i64 q, .int .i64 a] w fun e w' => e = .returned (.tuple #[elZ, .bool false]) ∧ Below w.heap.size w w' := by
  rcases inE_no h with hs | ⟨hs, a0⟩ | ⟨hs, a0, a1⟩
  · clear h
    have HS := Lib.hid (fun w => fieldOf_no q w hs)
    clear hs
    go_enter Try.func38, Try.ntmps38
    go_wp2_with (first | (go_at_call 40; refine (HS.out _).mono ?_; rintro e w1 ⟨rfl, hb1⟩; obtain ⟨hc1, hf1⟩ := bcell hb1; have hz1 := hb1.size; (try simp at hz1); have HB1 := Lib.hid hb1; clear hb1; have hl0 : w.heap.size < w1.heap.size := (by omega)))
    have hb1 := HB1.out
    have r : ∀ o, w1.cell? ⟨w.heap.size, o, none⟩ = (w.alloc zblk).cell? ⟨w.heap.size, o, none⟩ := fun o => Below.cell (B := w.heap.size + 1) (by (repeat' (first | (with_reducible assumption) | (with_reducible exact Below.refl _ _) | (with_reducible refine below_drewN ?_ _) | (with_reducible refine Below.drew ?_) | (with_reducible refine Below.alloc ?_ ?_ _) | (with_reducible refine Below.setCell ?_ ?_ _) | (with_reducible refine Below.trans ?_ (Below.mono (by assumption) ?_)) | (with_reducible exact Nat.le_refl _) | (with_reducible assumption) | omega | (simp; omega) | (simp; done)))) (by simp)
    refine bodyPost_ret (v := .tuple #[elZ, .bool false]) (by simp [results, Try.results38, go_sem, r, zblk, hl0]) rfl ⟨rfl, ?_⟩
    (repeat' (first | (with_reducible assumption) | (with_reducible exact Below.refl _ _) | (with_reducible refine below_drewN ?_ _) | (with_reducible refine Below.drew ?_) | (with_reducible refine Below.alloc ?_ ?_ _) | (with_reducible refine Below.setCell ?_ ?_ _) | (with_reducible refine Below.trans ?_ (Below.mono (by assumption) ?_)) | (with_reducible exact Nat.le_refl _) | (with_reducible assumption) | omega | (simp; omega) | (simp; done)))
  · clear h
    have HS := Lib.hid (fun w => fieldOf_yes q w hs)
    clear hs
    go_enter Try.func38, Try.ntmps38
    go_wp2_with (first | (go_at_call 40; refine (HS.out _).mono ?_; rintro e w1 ⟨rfl, hb1⟩; obtain ⟨hc1, hf1⟩ := bcell hb1; have hz1 := hb1.size; (try simp at hz1); have HB1 := Lib.hid hb1; clear hb1; have hl0 : w.heap.size < w1.heap.size := (by omega)) | (go_at_call 66; refine (has_low _ _ _ a0).mono ?_; rintro e w2 ⟨rfl, hb2⟩; obtain ⟨hc2, hf2⟩ := bcell hb2; have hz2 := hb2.size; (try simp at hz2); have HB2 := Lib.hid hb2; clear hb2; have hl2 : w1.heap.size < w2.heap.size := (by omega); have hl1 : w.heap.size < w2.heap.size := (by omega)))
    have hb1 := HB1.out
    have hb2 := HB2.out
    have r : ∀ o, w2.cell? ⟨w.heap.size, o, none⟩ = (w.alloc zblk).cell? ⟨w.heap.size, o, none⟩ := fun o => Below.cell (B := w.heap.size + 1) (by (repeat' (first | (with_reducible assumption) | (with_reducible exact Below.refl _ _) | (with_reducible refine below_drewN ?_ _) | (with_reducible refine Below.drew ?_) | (with_reducible refine Below.alloc ?_ ?_ _) | (with_reducible refine Below.setCell ?_ ?_ _) | (with_reducible refine Below.trans ?_ (Below.mono (by assumption) ?_)) | (with_reducible exact Nat.le_refl _) | (with_reducible assumption) | omega | (simp; omega) | (simp; done)))) (by simp)
    refine bodyPost_ret (v := .tuple #[elZ, .bool false]) (by simp [results, Try.results38, go_sem, r, zblk]) rfl ⟨rfl, ?_⟩
    (repeat' (first | (with_reducible assumption) | (with_reducible exact Below.refl _ _) | (with_reducible refine below_drewN ?_ _) | (with_reducible refine Below.drew ?_) | (with_reducible refine Below.alloc ?_ ?_ _) | (with_reducible refine Below.setCell ?_ ?_ _) | (with_reducible refine Below.trans ?_ (Below.mono (by assumption) ?_)) | (with_reducible exact Nat.le_refl _) | (with_reducible assumption) | omega | (simp; omega) | (simp; done)))
  · clear h
    have HS := Lib.hid (fun w => fieldOf_yes q w hs)
    clear hs
    go_enter Try.func38, Try.ntmps38
    go_wp2_with (first | (go_at_call 40; refine (HS.out _).mono ?_; rintro e w1 ⟨rfl, hb1⟩; obtain ⟨hc1, hf1⟩ := bcell hb1; have hz1 := hb1.size; (try simp at hz1); have HB1 := Lib.hid hb1; clear hb1; have hl0 : w.heap.size < w1.heap.size := (by omega)) | (go_at_call 66; refine (has_high _ _ _ a0 a1).mono ?_; rintro e w2 ⟨rfl, hb2⟩; obtain ⟨hc2, hf2⟩ := bcell hb2; have hz2 := hb2.size; (try simp at hz2); have HB2 := Lib.hid hb2; clear hb2; have hl2 : w1.heap.size < w2.heap.size := (by omega); have hl1 : w.heap.size < w2.heap.size := (by omega)))
    have hb1 := HB1.out
    have hb2 := HB2.out
    have r : ∀ o, w2.cell? ⟨w.heap.size, o, none⟩ = (w.alloc zblk).cell? ⟨w.heap.size, o, none⟩ := fun o => Below.cell (B := w.heap.size + 1) (by (repeat' (first | (with_reducible assumption) | (with_reducible exact Below.refl _ _) | (with_reducible refine below_drewN ?_ _) | (with_reducible refine Below.drew ?_) | (with_reducible refine Below.alloc ?_ ?_ _) | (with_reducible refine Below.setCell ?_ ?_ _) | (with_reducible refine Below.trans ?_ (Below.mono (by assumption) ?_)) | (with_reducible exact Nat.le_refl _) | (with_reducible assumption) | omega | (simp; omega) | (simp; done)))) (by simp)
    refine bodyPost_ret (v := .tuple #[elZ, .bool false]) (by simp [results, Try.results38, go_sem, r, zblk]) rfl ⟨rfl, ?_⟩
    (repeat' (first | (with_reducible assumption) | (with_reducible exact Below.refl _ _) | (with_reducible refine below_drewN ?_ _) | (with_reducible refine Below.drew ?_) | (with_reducible refine Below.alloc ?_ ?_ _) | (with_reducible refine Below.setCell ?_ ?_ _) | (with_reducible refine Below.trans ?_ (Below.mono (by assumption) ?_)) | (with_reducible exact Nat.le_refl _) | (with_reducible assumption) | omega | (simp; omega) | (simp; done)))

end Go.Proofs.Ythklnfanbegecac
