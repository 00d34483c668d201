/- Tongue, the reference: is a speech right. -/
import Derived.Test.YtohahlnhbppnhaaAG
namespace Go.Proofs.Ytohahlnhbppnhaa
open Go.RowKit
set_option linter.unusedSimpArgs false
set_option linter.unusedVariables false

/-- Is a sentence of a speech right? -/
def rightAt (s : Spoken) (i : Nat) : Bool := inB (s.starts.getD i 0) 0 100000 && valR (s.needs.getD i (0, 0))

theorem valP_right (s : Spoken) : valP s = (decide (s.starts.length ≤ 20) && (refRise s.starts && (inB s.lag 1 60 && (decide (s.needs.length = s.starts.length) && (List.range s.starts.length).all (rightAt s))))) := by
  unfold valP
  rw [rising_split]
  by_cases hl : s.needs.length = s.starts.length
  · have h1 : (s.starts.all fun x => inB x 0 100000) = (List.range s.starts.length).all fun i => inB (s.starts.getD i 0) 0 100000 := by
      rw [Bool.eq_iff_iff, List.all_eq_true, List.all_eq_true]
      constructor
      · intro h i hi
        have hi' := List.mem_range.1 hi
        rw [List.getD_eq_getElem?_getD, List.getElem?_eq_getElem hi', Option.getD_some]
        exact h _ (List.getElem_mem _)
      · intro h x hx
        obtain ⟨i, hi, rfl⟩ := List.mem_iff_getElem.1 hx
        have := h i (List.mem_range.2 hi)
        rwa [List.getD_eq_getElem?_getD, List.getElem?_eq_getElem hi, Option.getD_some] at this
    have h2 : s.needs.all valR = (List.range s.starts.length).all fun i => valR (s.needs.getD i (0, 0)) := by
      rw [Bool.eq_iff_iff, List.all_eq_true, List.all_eq_true]
      constructor
      · intro h i hi
        have hi' := List.mem_range.1 hi
        rw [List.getD_eq_getElem?_getD, List.getElem?_eq_getElem (by omega), Option.getD_some]
        exact h _ (List.getElem_mem _)
      · intro h x hx
        obtain ⟨i, hi, rfl⟩ := List.mem_iff_getElem.1 hx
        have := h i (List.mem_range.2 (by omega))
        rwa [List.getD_eq_getElem?_getD, List.getElem?_eq_getElem hi, Option.getD_some] at this
    have h3 : (List.range s.starts.length).all (rightAt s) = (((List.range s.starts.length).all fun i => inB (s.starts.getD i 0) 0 100000) && ((List.range s.starts.length).all fun i => valR (s.needs.getD i (0, 0)))) := by
      rw [Bool.eq_iff_iff, Bool.and_eq_true, List.all_eq_true, List.all_eq_true, List.all_eq_true]
      constructor
      · intro h
        refine ⟨fun i hi => ?_, fun i hi => ?_⟩
        · have := h i hi
          simp only [rightAt, Bool.and_eq_true] at this
          exact this.1
        · have := h i hi
          simp only [rightAt, Bool.and_eq_true] at this
          exact this.2
      · rintro ⟨h, h'⟩ i hi
        simp only [rightAt, Bool.and_eq_true]
        exact ⟨h i hi, h' i hi⟩
    rw [h1, h2, h3]
    simp only [hl, decide_true, Bool.true_and]
    cases decide (s.starts.length ≤ 20) <;> cases ((List.range s.starts.length).all fun i => inB (s.starts.getD i 0) 0 100000) <;> cases refRise s.starts <;> cases inB s.lag 1 60 <;> simp
  · simp [hl]

end Go.Proofs.Ytohahlnhbppnhaa
