/- Contract of every, over a sitting's pauses. -/
import Derived.Test.YtgapbaelifcifaaB
namespace Go.Proofs.Ytgapbaelifcifaa
open Go.RowKit

set_option maxHeartbeats 400000 in
theorem every84 (L : List (Int × Int)) (len : Int) (bs n cap : Nat) (a : Option Addr) (w : World)
    (hL : L.length = n) (hn : n ≤ maxLen) (h0 : w.cell? ⟨bs, 0, none⟩ = some (.int .i64 len)) (h1 : w.cell? ⟨bs, 1, none⟩ = some (.slice a n cap)) (hS : Spans w a L) :
    Calls Try.prog 84 #[.slice a n cap, .func (.func 85) #[] #[.pointer (some ⟨bs, 0, none⟩)]] w fun e w' =>
      e = .returned (.bool (pausesOk len L)) ∧ Below w.heap.size w w' := by
  have hn' := hn
  unfold maxLen at hn'
  have hbs := lt_of_cell h0
  have HL : Hid (L.length = n) := hL
  clear hL
  go_enter Try.func84, Try.ntmps84
  go_wp2
  go_loopw [9] (fun i wr => ∃ k : Nat, k ≤ n ∧ i = .int .i64 k ∧ (∀ j, j < k → pauseOk len L j = true) ∧ Below w.heap.size w wr) (fun i _ => n - (intOf i).toNat)
  case atStart => exact ⟨0, Nat.zero_le _, rfl, fun _ h => by omega, Below.refl _ _⟩
  case round =>
    obtain ⟨k, hk, rfl, hj, hB⟩ := hrel
    by_cases hlt : k < n
    · obtain ⟨b, off, rfl, hc1, hc2⟩ := hS k (by rw [HL.out]; exact hlt)
      have g1 := cell_grown hB hc1
      have g2 := cell_grown hB hc2
      have gb := lt_of_cell g1
      have hP : Hid _ := hj
      clear hj
      go_wp2_with fail
      refine (vs1_any k L len bs n cap _ _ HL.out hlt hn (cell_grown (hB.alloc hB.size _) h0) (cell_grown (hB.alloc hB.size _) h1) (hS.grown (hB.alloc hB.size _))).mono ?_
      rintro e w' ⟨rfl, hb⟩
      by_cases hp : pauseOk len L k = true
      · go_wp2
        go_roundw
        case rel => exact ⟨k + 1, by omega, by go_num, fun j hj => by by_cases e : j = k; · rw [e]; exact hp
                                                                      · exact hP.out j (by omega), (hB.alloc hB.size _).trans (hb.mono (by have := hB.size; simp; omega))⟩
        case measure => simp [intOf]; omega
      · go_wp2
        go_ways
        go_ret
        exact ⟨by rw [pausesOk_no (by rw [HL.out]; exact hlt) (by simpa using hp)]; rfl, (hB.alloc hB.size _).trans (hb.mono (by have := hB.size; simp; omega))⟩
    · have hP : Hid _ := hj
      clear hj
      go_wp2
      go_ret
      exact ⟨by rw [pausesOk_yes (fun j h => hP.out j (by rw [HL.out] at h; omega))]; rfl, hB⟩

end Go.Proofs.Ytgapbaelifcifaa
