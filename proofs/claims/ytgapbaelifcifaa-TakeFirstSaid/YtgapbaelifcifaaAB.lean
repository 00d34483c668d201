/- Contract of the method at of a standing. -/
import Derived.Test.YtgapbaelifcifaaD
namespace Go.Proofs.Ytgapbaelifcifaa
open Go.RowKit

def zM (k h : Nat) : Nat := if h ≤ k then 0 else h

theorem zM_le {k h : Nat} (hle : h ≤ k) : zM k h = 0 := if_pos hle
theorem zM_gt {k h : Nat} (hle : ¬ h ≤ k) : zM k h = h := if_neg hle

def atRel (w : World) (k h0 h1 h2 h3 h4 : Nat) (j : Nat) (W : World) : Prop :=
  match j with
  | 0 => W = (w.alloc (.cells #[.int .i64 (h0 : Int), .int .i64 (h1 : Int), .int .i64 (h2 : Int), .int .i64 (h3 : Int), .int .i64 (h4 : Int)] 130)).alloc (.cells #[.int .i64 0, .int .i64 0, .int .i64 0, .int .i64 0, .int .i64 0] 130)
  | 1 => W = (w.alloc (.cells #[.int .i64 ((zM k h0 : Nat) : Int), .int .i64 (h1 : Int), .int .i64 (h2 : Int), .int .i64 (h3 : Int), .int .i64 (h4 : Int)] 130)).alloc (.cells #[.int .i64 0, .int .i64 0, .int .i64 0, .int .i64 0, .int .i64 0] 130)
  | 2 => W = (w.alloc (.cells #[.int .i64 ((zM k h0 : Nat) : Int), .int .i64 ((zM k h1 : Nat) : Int), .int .i64 (h2 : Int), .int .i64 (h3 : Int), .int .i64 (h4 : Int)] 130)).alloc (.cells #[.int .i64 0, .int .i64 0, .int .i64 0, .int .i64 0, .int .i64 0] 130)
  | 3 => W = (w.alloc (.cells #[.int .i64 ((zM k h0 : Nat) : Int), .int .i64 ((zM k h1 : Nat) : Int), .int .i64 ((zM k h2 : Nat) : Int), .int .i64 (h3 : Int), .int .i64 (h4 : Int)] 130)).alloc (.cells #[.int .i64 0, .int .i64 0, .int .i64 0, .int .i64 0, .int .i64 0] 130)
  | 4 => W = (w.alloc (.cells #[.int .i64 ((zM k h0 : Nat) : Int), .int .i64 ((zM k h1 : Nat) : Int), .int .i64 ((zM k h2 : Nat) : Int), .int .i64 ((zM k h3 : Nat) : Int), .int .i64 (h4 : Int)] 130)).alloc (.cells #[.int .i64 0, .int .i64 0, .int .i64 0, .int .i64 0, .int .i64 0] 130)
  | 5 => W = (w.alloc (.cells #[.int .i64 ((zM k h0 : Nat) : Int), .int .i64 ((zM k h1 : Nat) : Int), .int .i64 ((zM k h2 : Nat) : Int), .int .i64 ((zM k h3 : Nat) : Int), .int .i64 ((zM k h4 : Nat) : Int)] 130)).alloc (.cells #[.int .i64 0, .int .i64 0, .int .i64 0, .int .i64 0, .int .i64 0] 130)
  | _ => False

set_option maxRecDepth 100000 in
set_option maxHeartbeats 1000000 in
theorem at_any (h0 h1 h2 h3 h4 k : Nat) (w : World) (_ : k ≤ 1000) :
    Calls Try.prog 75 #[.agg #[.int .i64 (h0 : Int), .int .i64 (h1 : Int), .int .i64 (h2 : Int), .int .i64 (h3 : Int), .int .i64 (h4 : Int)], .int .i64 (k : Int)] w fun e w' => e = .returned (.agg #[.int .i64 ((zM k h0 : Nat) : Int), .int .i64 ((zM k h1 : Nat) : Int), .int .i64 ((zM k h2 : Nat) : Int), .int .i64 ((zM k h3 : Nat) : Int), .int .i64 ((zM k h4 : Nat) : Int)]) ∧ Below w.heap.size w w' := by
  go_enter Try.func75, Try.ntmps75
  go_wp2
  go_loopw [6] (fun i wr => ∃ j : Nat, j ≤ 5 ∧ i = .int .i64 j ∧ atRel w k h0 h1 h2 h3 h4 j wr) (fun i _ => 5 - (intOf i).toNat)
  case atStart => exact ⟨0, by omega, rfl, rfl⟩
  case round =>
    obtain ⟨j, hj, rfl, hR⟩ := hrel
    have hj5 : j = 0 ∨ j = 1 ∨ j = 2 ∨ j = 3 ∨ j = 4 ∨ j = 5 := by omega
    rcases hj5 with rfl | rfl | rfl | rfl | rfl | rfl
    · obtain rfl : wr = _ := hR
      by_cases hle : h0 ≤ k
      · have HZ := hid (zM_le hle)
        have hle' : ((h0 : Nat) : Int) ≤ (k : Int) := by omega
        clear hle
        go_wp2
        go_roundw
        case rel => exact ⟨1, by omega, rfl, by unfold atRel; rw [HZ.out]; rfl⟩
        case measure => simp [intOf]
      · have HZ := hid (zM_gt hle)
        have hle' : ¬ ((h0 : Nat) : Int) ≤ (k : Int) := by omega
        clear hle
        go_wp2
        go_roundw
        case rel => exact ⟨1, by omega, rfl, by unfold atRel; rw [HZ.out]; rfl⟩
        case measure => simp [intOf]
    · obtain rfl : wr = _ := hR
      by_cases hle : h1 ≤ k
      · have HZ := hid (zM_le hle)
        have hle' : ((h1 : Nat) : Int) ≤ (k : Int) := by omega
        clear hle
        go_wp2
        go_roundw
        case rel => exact ⟨2, by omega, rfl, by unfold atRel; rw [HZ.out]; rfl⟩
        case measure => simp [intOf]
      · have HZ := hid (zM_gt hle)
        have hle' : ¬ ((h1 : Nat) : Int) ≤ (k : Int) := by omega
        clear hle
        go_wp2
        go_roundw
        case rel => exact ⟨2, by omega, rfl, by unfold atRel; rw [HZ.out]; rfl⟩
        case measure => simp [intOf]
    · obtain rfl : wr = _ := hR
      by_cases hle : h2 ≤ k
      · have HZ := hid (zM_le hle)
        have hle' : ((h2 : Nat) : Int) ≤ (k : Int) := by omega
        clear hle
        go_wp2
        go_roundw
        case rel => exact ⟨3, by omega, rfl, by unfold atRel; rw [HZ.out]; rfl⟩
        case measure => simp [intOf]
      · have HZ := hid (zM_gt hle)
        have hle' : ¬ ((h2 : Nat) : Int) ≤ (k : Int) := by omega
        clear hle
        go_wp2
        go_roundw
        case rel => exact ⟨3, by omega, rfl, by unfold atRel; rw [HZ.out]; rfl⟩
        case measure => simp [intOf]
    · obtain rfl : wr = _ := hR
      by_cases hle : h3 ≤ k
      · have HZ := hid (zM_le hle)
        have hle' : ((h3 : Nat) : Int) ≤ (k : Int) := by omega
        clear hle
        go_wp2
        go_roundw
        case rel => exact ⟨4, by omega, rfl, by unfold atRel; rw [HZ.out]; rfl⟩
        case measure => simp [intOf]
      · have HZ := hid (zM_gt hle)
        have hle' : ¬ ((h3 : Nat) : Int) ≤ (k : Int) := by omega
        clear hle
        go_wp2
        go_roundw
        case rel => exact ⟨4, by omega, rfl, by unfold atRel; rw [HZ.out]; rfl⟩
        case measure => simp [intOf]
    · obtain rfl : wr = _ := hR
      by_cases hle : h4 ≤ k
      · have HZ := hid (zM_le hle)
        have hle' : ((h4 : Nat) : Int) ≤ (k : Int) := by omega
        clear hle
        go_wp2
        go_roundw
        case rel => exact ⟨5, by omega, rfl, by unfold atRel; rw [HZ.out]; rfl⟩
        case measure => simp [intOf]
      · have HZ := hid (zM_gt hle)
        have hle' : ¬ ((h4 : Nat) : Int) ≤ (k : Int) := by omega
        clear hle
        go_wp2
        go_roundw
        case rel => exact ⟨5, by omega, rfl, by unfold atRel; rw [HZ.out]; rfl⟩
        case measure => simp [intOf]
    · obtain rfl : wr = _ := hR
      go_wp2
      exact bodyPost_ret (v := .agg #[.int .i64 ((zM k h0 : Nat) : Int), .int .i64 ((zM k h1 : Nat) : Int), .int .i64 ((zM k h2 : Nat) : Int), .int .i64 ((zM k h3 : Nat) : Int), .int .i64 ((zM k h4 : Nat) : Int)]) (by simp [results, Try.f75, go_sem]) rfl ⟨rfl, by first | exact ((Below.refl _ _).alloc (Nat.le_refl _) _).alloc (by simp) _ | exact (((Below.refl _ _).alloc (Nat.le_refl _) _).alloc (by simp) _).setCell (by simp) _⟩

end Go.Proofs.Ytgapbaelifcifaa
