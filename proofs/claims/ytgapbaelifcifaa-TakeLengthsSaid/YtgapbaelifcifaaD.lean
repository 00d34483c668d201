/- Contracts of validSitting, and of the reference's Valid. -/
import Derived.Test.YtgapbaelifcifaaC
namespace Go.Proofs.Ytgapbaelifcifaa
open Go.RowKit

def sitOk (len long short : Int) (L : List (Int × Int)) : Bool := inB len 1 36000 && (inB long 1 1200 && (inB short 1 long && pausesOk len L))

theorem hid {p : Prop} (h : p) : Hid p := h

set_option maxHeartbeats 400000 in
theorem validSitting_any (L : List (Int × Int)) (len long short : Int) (n cap : Nat) (a : Option Addr) (w : World)
    (hL : L.length = n) (hn : n ≤ maxLen) (hS : Spans w a L) :
    Calls Try.prog 70 #[.agg #[.int .i64 len, .slice a n cap, .int .i64 long, .int .i64 short]] w fun e w' =>
      e = .returned (.bool (sitOk len long short L)) ∧ Below w.heap.size w w' := by
  have HL := hid hL
  clear hL
  by_cases b0 : (inB len 1 36000 && (inB long 1 1200 && inB short 1 long)) = true
  · have hz : sitOk len long short L = pausesOk len L := by
      simp only [Bool.and_eq_true] at b0
      simp [sitOk, b0]
    simp only [Bool.and_eq_true] at b0
    obtain ⟨b1, b2, b3⟩ := b0
    have HZ := hid hz
    clear hz
    go_enter Try.func70, Try.ntmps70
    go_wp2_with (first | (go_at_call 53; refine (within_any _ _ _ _).mono ?_; rintro e w' ⟨rfl, rfl⟩) | (go_at_call 84; refine (every84 L len w.heap.size n cap a _ HL.out hn (by simp) (by simp) (hS.grown ((Below.refl _ _).alloc (Nat.le_refl _) _))).mono ?_; rintro e w1 ⟨rfl, hb⟩))
    go_ret
    exact ⟨by rw [HZ.out]; rfl, ((Below.refl _ _).alloc (Nat.le_refl _) _).trans (hb.mono (by simp))⟩
  · have hz : sitOk len long short L = false := by
      simp only [Bool.and_eq_true, not_and, Bool.not_eq_true] at b0
      cases h1 : inB len 1 36000 <;> cases h2 : inB long 1 1200 <;> simp_all [sitOk]
    have HZ := hid hz
    clear hz
    cases b1 : inB len 1 36000 <;> cases b2 : inB long 1 1200 <;> cases b3 : inB short 1 long
    case true.true.true => simp [b1, b2, b3] at b0
    all_goals
      clear b0
      go_enter Try.func70, Try.ntmps70
      go_wp2_with (go_at_call 53; refine (within_any _ _ _ _).mono ?_; rintro e w' ⟨rfl, rfl⟩)
      go_ret
      exact ⟨by rw [HZ.out]; rfl, (Below.refl _ _).alloc (Nat.le_refl _) _⟩

set_option maxHeartbeats 400000 in
theorem in_any (n lo hi : Int) (w : World) :
    Calls Try.prog 27 #[.int .i64 n, .int .i64 lo, .int .i64 hi] w fun e w' => e = .returned (.bool (inB n lo hi)) ∧ w = w' := by
  go_enter Try.func27, Try.ntmps27
  by_cases h1 : lo ≤ n <;> by_cases h2 : n ≤ hi
  all_goals
    go_wp2
    go_ret
    exact ⟨by simp [inB, *], rfl⟩

end Go.Proofs.Ytgapbaelifcifaa
