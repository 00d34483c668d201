/- Tongue, the laws in numbers: lines, and what is blank. -/
import Derived.Test.YtohahlnhbppnhaaAX
namespace Go.Proofs.Ytohahlnhbppnhaa
open Go.RowKit
set_option linter.unusedSimpArgs false
set_option linter.unusedVariables false

theorem sizeM_append (A B : List Sen) : sizeM (A ++ B) = sizeM A + sizeM B := by
  unfold sizeM
  rw [List.map_append, List.sum_append]

theorem go_sizes (L R : List Sen) (nl nr : Nat) (hL : L.length = nl) (hR : R.length = nr) (l : List (Int × Int)) : ∀ i k ms, goM nl nr l i k = some (ms, nl, nr) → (ms.map (leftS L)).sum = sizeM (L.drop i) ∧ (ms.map (rightS R)).sum = sizeM (R.drop k) := by
  induction l with
  | nil =>
    intro i k ms h
    simp only [goM, Option.some.injEq, Prod.mk.injEq] at h
    obtain ⟨rfl, rfl, rfl⟩ := h
    rw [List.drop_eq_nil_of_le (by omega), List.drop_eq_nil_of_le (by omega)]
    exact ⟨rfl, rfl⟩
  | cons x l ih =>
    intro i k ms h
    simp only [goM] at h
    cases hx : takeM nl nr i k x.1 x.2 with
    | none => rw [hx] at h; cases h
    | some t =>
      rw [hx] at h
      simp only at h
      cases hg : goM nl nr l (i + t.1) (k + t.2) with
      | none => rw [hg] at h; cases h
      | some r =>
        rw [hg] at h
        obtain ⟨ms', a', c'⟩ := r
        simp only [Option.map_some, Option.some.injEq, Prod.mk.injEq] at h
        obtain ⟨rfl, rfl, rfl⟩ := h
        obtain ⟨h1, h2⟩ := ih _ _ _ hg
        have e1 : L.drop i = (L.drop i).take t.1 ++ L.drop (i + t.1) := by
          rw [← List.drop_drop, List.take_append_drop]
        have e2 : R.drop k = (R.drop k).take t.2 ++ R.drop (k + t.2) := by
          rw [← List.drop_drop, List.take_append_drop]
        have s1 : sizeM (L.drop i) = sizeM ((L.drop i).take t.1) + sizeM (L.drop (i + t.1)) := by
          rw [← sizeM_append, ← e1]
        have s2 : sizeM (R.drop k) = sizeM ((R.drop k).take t.2) + sizeM (R.drop (k + t.2)) := by
          rw [← sizeM_append, ← e2]
        rw [List.map_cons, List.sum_cons, List.map_cons, List.sum_cons, h1, h2, s1, s2]
        exact ⟨rfl, rfl⟩

theorem sums (L R : List Sen) (ms : List (Nat × Nat × Nat × Nat)) : (ms.map (leftS L)).sum ≤ (ms.map (wideM L R)).sum ∧ (ms.map (rightS R)).sum ≤ (ms.map (wideM L R)).sum ∧
    (ms.map (leftS L)).sum + (ms.map (rightS R)).sum + (ms.map fun m => wideM L R m - leftS L m + wideM L R m - rightS R m).sum = 2 * (ms.map (wideM L R)).sum := by
  induction ms with
  | nil => simp
  | cons m ms ih =>
    have h1 : leftS L m ≤ wideM L R m := by unfold wideM; omega
    have h2 : rightS R m ≤ wideM L R m := by unfold wideM; omega
    simp only [List.map_cons, List.sum_cons]
    omega

theorem wide_bd {L R : List Sen} (zL : SizesOk L) (zR : SizesOk R) {nl nr : Nat} (hL : L.length = nl) (hR : R.length = nr) {ms : List (Nat × Nat × Nat × Nat)} (hf : Fits nl nr ms) (m : Nat × Nat × Nat × Nat) (hm : m ∈ ms) : 1 ≤ wideM L R m ∧ wideM L R m ≤ 400 := by
  obtain ⟨f1, f2, f3, f4, f5⟩ := hf m hm
  have a := sizeM_bd _ (zL.part m.1 m.2.2.1)
  have b := sizeM_bd _ (zR.part m.2.1 m.2.2.2)
  have la : ((L.drop m.1).take m.2.2.1).length = m.2.2.1 := by rw [List.length_take, List.length_drop]; omega
  have lb : ((R.drop m.2.1).take m.2.2.2).length = m.2.2.2 := by rw [List.length_take, List.length_drop]; omega
  rw [la] at a
  rw [lb] at b
  have e1 : leftS L m = sizeM ((L.drop m.1).take m.2.2.1) := rfl
  have e2 : rightS R m = sizeM ((R.drop m.2.1).take m.2.2.2) := rfl
  unfold wideM
  rw [e1, e2]
  omega

/-- What is said of level columns. -/
theorem level_facts {L R : List Sen} (zL : SizesOk L) (zR : SizesOk R) {nl nr : Nat} (hL : L.length = nl) (hR : R.length = nr) {l : List (Int × Int)} {ms : List (Nat × Nat × Nat × Nat)} (h : matchM nl nr l = some ms) :
    sizeM L ≤ linesM L R ms ms.length ∧ sizeM R ≤ linesM L R ms ms.length ∧ sizeM L + sizeM R + blankM L R ms ms.length = 2 * linesM L R ms ms.length ∧
    (∀ j, j < ms.length → linesM L R ms j < linesM L R ms (j + 1)) ∧ (∀ j, j ≤ ms.length → 0 ≤ linesM L R ms j ∧ linesM L R ms j ≤ 400 * j) ∧ ∀ j, j < ms.length → linesM L R ms j < linesM L R ms ms.length := by
  have hf := (match_fits h).2
  have hg := go_sizes L R nl nr hL hR l 0 0 ms (match_parts h)
  have hs := sums L R ms
  have e1 : linesM L R ms ms.length = (ms.map (wideM L R)).sum := by unfold linesM; rw [List.take_length]
  have e2 : blankM L R ms ms.length = (ms.map fun m => wideM L R m - leftS L m + wideM L R m - rightS R m).sum := by unfold blankM; rw [List.take_length]
  rw [List.drop_zero, List.drop_zero] at hg
  have hw : ∀ j, j < ms.length → 1 ≤ wideM L R (ms.getD j default) ∧ wideM L R (ms.getD j default) ≤ 400 := fun j hj => wide_bd zL zR hL hR hf _ (by rw [List.getD_eq_getElem?_getD, List.getElem?_eq_getElem hj]; exact List.getElem_mem _)
  have hst : ∀ j, j < ms.length → linesM L R ms j < linesM L R ms (j + 1) := fun j hj => by
    rw [linesM_succ L R ms j hj]
    have := hw j hj
    omega
  have hmono : ∀ d j, j + d ≤ ms.length → linesM L R ms j ≤ linesM L R ms (j + d) := by
    intro d
    induction d with
    | zero => intro j _; exact Int.le_refl _
    | succ d ih =>
      intro j hj
      have := ih j (by omega)
      have := hst (j + d) (by omega)
      rw [← Nat.add_assoc]
      omega
  refine ⟨by omega, by omega, by omega, hst, fun j hj => ?_, fun j hj => ?_⟩
  · induction j with
    | zero => exact ⟨Int.le_refl _, Int.le_refl _⟩
    | succ j ih =>
      have := ih (by omega)
      have := hw j (by omega)
      rw [linesM_succ L R ms j (by omega)]
      omega
  · have a := hst j hj
    have b := hmono (ms.length - (j + 1)) (j + 1) (by omega)
    rw [show j + 1 + (ms.length - (j + 1)) = ms.length by omega] at b
    omega

end Go.Proofs.Ytohahlnhbppnhaa
