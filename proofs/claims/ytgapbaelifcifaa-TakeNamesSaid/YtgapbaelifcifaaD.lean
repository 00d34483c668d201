/- Contract of every, over a sitting's pauses. Contracts of validSitting, and of the reference's Valid. -/
import Derived.Test.YtgapbaelifcifaaB
namespace Go.Proofs.Ytgapbaelifcifaa
open Go.RowKit

set_option maxHeartbeats 400000 in
theorem every84 (L : List (Int × Int)) (len : Int) (bs n cap : Nat) (a : Option Addr) (w : World)
    (hL : L.length = n) (hn : n ≤ maxLen) (h0 : w.cell? ⟨bs, 0, none⟩ = some (.int .i64 len)) (h1 : w.cell? ⟨bs, 1, none⟩ = some (.slice a n cap)) (hS : Spans w a L) :
    Calls Try.prog 84 #[.slice a n cap, .func (.func 85) #[] #[.pointer (some ⟨bs, 0, none⟩)]] w fun e w' =>
      e = .returned (.bool (pausesOk len L)) ∧ Below w.heap.size w w' := by
  have hn' := hn
  unfold maxLen at hn'
  have hbs := lt_of_cell h0
  have HL : Hid (L.length = n) := hL
  clear hL
  go_enter Try.func84, Try.ntmps84
  go_wp2
  go_loopw [9] (fun i wr => ∃ k : Nat, k ≤ n ∧ i = .int .i64 k ∧ (∀ j, j < k → pauseOk len L j = true) ∧ Below w.heap.size w wr) (fun i _ => n - (intOf i).toNat)
  case atStart => exact ⟨0, Nat.zero_le _, rfl, fun _ h => by omega, Below.refl _ _⟩
  case round =>
    obtain ⟨k, hk, rfl, hj, hB⟩ := hrel
    by_cases hlt : k < n
    · obtain ⟨b, off, rfl, hc1, hc2⟩ := hS k (by rw [HL.out]; exact hlt)
      have g1 := cell_grown hB hc1
      have g2 := cell_grown hB hc2
      have gb := lt_of_cell g1
      have hP : Hid _ := hj
      clear hj
      go_wp2_with fail
      refine (vs1_any k L len bs n cap _ _ HL.out hlt hn (cell_grown (hB.alloc hB.size _) h0) (cell_grown (hB.alloc hB.size _) h1) (hS.grown (hB.alloc hB.size _))).mono ?_
      rintro e w' ⟨rfl, hb⟩
      by_cases hp : pauseOk len L k = true
      · go_wp2
        go_roundw
        case rel => exact ⟨k + 1, by omega, by go_num, fun j hj => by by_cases e : j = k; · rw [e]; exact hp
                                                                      · exact hP.out j (by omega), (hB.alloc hB.size _).trans (hb.mono (by have := hB.size; simp; omega))⟩
        case measure => simp [intOf]; omega
      · go_wp2
        go_ways
        go_ret
        exact ⟨by rw [pausesOk_no (by rw [HL.out]; exact hlt) (by simpa using hp)]; rfl, (hB.alloc hB.size _).trans (hb.mono (by have := hB.size; simp; omega))⟩
    · have hP : Hid _ := hj
      clear hj
      go_wp2
      go_ret
      exact ⟨by rw [pausesOk_yes (fun j h => hP.out j (by rw [HL.out] at h; omega))]; rfl, hB⟩

end Go.Proofs.Ytgapbaelifcifaa

namespace Go.Proofs.Ytgapbaelifcifaa
open Go.RowKit

def sitOk (len long short : Int) (L : List (Int × Int)) : Bool := inB len 1 36000 && (inB long 1 1200 && (inB short 1 long && pausesOk len L))

theorem hid {p : Prop} (h : p) : Hid p := h

set_option maxHeartbeats 400000 in
theorem validSitting_any (L : List (Int × Int)) (len long short : Int) (n cap : Nat) (a : Option Addr) (w : World)
    (hL : L.length = n) (hn : n ≤ maxLen) (hS : Spans w a L) :
    Calls Try.prog 70 #[.agg #[.int .i64 len, .slice a n cap, .int .i64 long, .int .i64 short]] w fun e w' =>
      e = .returned (.bool (sitOk len long short L)) ∧ Below w.heap.size w w' := by
  have HL := hid hL
  clear hL
  by_cases b0 : (inB len 1 36000 && (inB long 1 1200 && inB short 1 long)) = true
  · have hz : sitOk len long short L = pausesOk len L := by
      simp only [Bool.and_eq_true] at b0
      simp [sitOk, b0]
    simp only [Bool.and_eq_true] at b0
    obtain ⟨b1, b2, b3⟩ := b0
    have HZ := hid hz
    clear hz
    go_enter Try.func70, Try.ntmps70
    go_wp2_with (first | (go_at_call 53; refine (within_any _ _ _ _).mono ?_; rintro e w' ⟨rfl, rfl⟩) | (go_at_call 84; refine (every84 L len w.heap.size n cap a _ HL.out hn (by simp) (by simp) (hS.grown ((Below.refl _ _).alloc (Nat.le_refl _) _))).mono ?_; rintro e w1 ⟨rfl, hb⟩))
    go_ret
    exact ⟨by rw [HZ.out]; rfl, ((Below.refl _ _).alloc (Nat.le_refl _) _).trans (hb.mono (by simp))⟩
  · have hz : sitOk len long short L = false := by
      simp only [Bool.and_eq_true, not_and, Bool.not_eq_true] at b0
      cases h1 : inB len 1 36000 <;> cases h2 : inB long 1 1200 <;> simp_all [sitOk]
    have HZ := hid hz
    clear hz
    cases b1 : inB len 1 36000 <;> cases b2 : inB long 1 1200 <;> cases b3 : inB short 1 long
    case true.true.true => simp [b1, b2, b3] at b0
    all_goals
      clear b0
      go_enter Try.func70, Try.ntmps70
      go_wp2_with (go_at_call 53; refine (within_any _ _ _ _).mono ?_; rintro e w' ⟨rfl, rfl⟩)
      go_ret
      exact ⟨by rw [HZ.out]; rfl, (Below.refl _ _).alloc (Nat.le_refl _) _⟩

set_option maxHeartbeats 400000 in
theorem in_any (n lo hi : Int) (w : World) :
    Calls Try.prog 27 #[.int .i64 n, .int .i64 lo, .int .i64 hi] w fun e w' => e = .returned (.bool (inB n lo hi)) ∧ w = w' := by
  go_enter Try.func27, Try.ntmps27
  by_cases h1 : lo ≤ n <;> by_cases h2 : n ≤ hi
  all_goals
    go_wp2
    go_ret
    exact ⟨by simp [inB, *], rfl⟩

end Go.Proofs.Ytgapbaelifcifaa
