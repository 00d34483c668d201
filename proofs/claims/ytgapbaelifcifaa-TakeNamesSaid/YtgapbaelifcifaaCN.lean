/- What a sitting's fault says; takes that are short are whole stretches. -/
import Derived.Test.YtgapbaelifcifaaCE
import Derived.Test.YtgapbaelifcifaaCL
namespace Go.Proofs.Ytgapbaelifcifaa
open Go.RowKit

theorem sitErr_zero {len long short : Int} {L : List (Int × Int)} (h : sitErr len long short L = 0) : sitOk len long short L = true ∧ (takesOf len long short L).length ≤ 40 := by
  unfold sitErr at h
  split at h
  · omega
  · next h1 =>
    split at h
    · omega
    · exact ⟨by simpa using h1, by omega⟩

theorem sitErr_cases (len long short : Int) (L : List (Int × Int)) : sitErr len long short L = 0 ∨ sitErr len long short L = 1 ∨ sitErr len long short L = 3 := by
  unfold sitErr
  split
  · simp
  · split <;> simp

/-- The take that is short is a whole stretch. -/
theorem whole_of {len long short : Int} {L : List (Int × Int)} (h : sitOk len long short L = true) {x : Int × Int} (hx : x ∈ takesOf len long short L) :
    (0 ≤ x.1 ∧ x.1 < x.2 ∧ x.2 ≤ len) ∧ x.2 - x.1 < long + short ∧ (x.2 - x.1 < short → (x.1 = 0 ∨ pausedM L (x.1 - 1) = true) ∧ (x.2 = len ∨ pausedM L x.2 = true)) := by
  obtain ⟨h1, h2, h3⟩ := takesOf_mem h x hx
  have hp := pausesOk_mem (sitOk_parts h).2.2.2
  refine ⟨h1, h2, fun hs => ?_⟩
  obtain ⟨e1, e2⟩ := h3 hs
  constructor
  · rcases e1 with e1 | ⟨p, hpL, e1⟩
    · exact .inl e1
    · refine .inr ?_
      have := hp p hpL
      unfold pausedM
      rw [List.any_eq_true]
      exact ⟨p, hpL, by simp [inB]; omega⟩
  · rcases e2 with e2 | ⟨p, hpL, e2⟩
    · exact .inl e2
    · refine .inr ?_
      have := hp p hpL
      unfold pausedM
      rw [List.any_eq_true]
      exact ⟨p, hpL, by simp [inB]; omega⟩

end Go.Proofs.Ytgapbaelifcifaa
