/- Tongue, in numbers: the least of what comes to a place, step by step. -/
import Derived.Test.YtohahlnhbppnhaaBT
import Derived.Test.YtohahlnhbppnhaaAJ
namespace Go.Proofs.Ytohahlnhbppnhaa
open Go.RowKit
set_option linter.unusedSimpArgs false
set_option linter.unusedVariables false

/-- The better one, where less than nothing means that there is none yet. -/
def betterM (b z : Int) : Int := if b < 0 ∨ z < b then z else b

/-- The least so far of what comes to the place from where the first steps begin. -/
def comeM (L R : List Sen) (i k : Nat) : Nat → Int
  | 0 => -1
  | m + 1 => let s := kinds.getD m (0, 0); if s.1 ≤ i ∧ s.2 ≤ k then betterM (comeM L R i k m) (halfM L R (i - s.1) (k - s.2) + (priceAt L R (i - s.1) (k - s.2) s : Int)) else comeM L R i k m

theorem comeM_succ (L R : List Sen) (i k m : Nat) : comeM L R i k (m + 1) = if (kinds.getD m (0, 0)).1 ≤ i ∧ (kinds.getD m (0, 0)).2 ≤ k then betterM (comeM L R i k m) (halfM L R (i - (kinds.getD m (0, 0)).1) (k - (kinds.getD m (0, 0)).2) + (priceAt L R (i - (kinds.getD m (0, 0)).1) (k - (kinds.getD m (0, 0)).2) (kinds.getD m (0, 0)) : Int)) else comeM L R i k m := rfl

theorem better_fold (l : List Int) : ∀ b : Int, 0 ≤ b → (∀ x ∈ l, 0 ≤ x) → l.foldl betterM b = l.foldl min b := by
  induction l with
  | nil => intro b _ _; rfl
  | cons x l ih =>
    intro b hb hl
    have hx := hl x List.mem_cons_self
    have e : betterM b x = min b x := by unfold betterM; split <;> omega
    rw [List.foldl_cons, List.foldl_cons, e]
    exact ih _ (by omega) (fun y hy => hl y (List.mem_cons_of_mem _ hy))

theorem better_all (l : List Int) (hl : ∀ x ∈ l, 0 ≤ x) : l.foldl betterM (-1) = if l = [] then -1 else minL l := by
  cases l with
  | nil => rfl
  | cons x l =>
    have e : betterM (-1) x = x := by unfold betterM; simp
    rw [List.foldl_cons, e, if_neg (by simp), better_fold l x (hl x List.mem_cons_self) (fun y hy => hl y (List.mem_cons_of_mem _ hy))]
    rfl

def comesM (L R : List Sen) (i k : Nat) (m : Nat) : List Int := ((kinds.take m).filter fun s => decide (s.1 ≤ i ∧ s.2 ≤ k)).map fun s => halfM L R (i - s.1) (k - s.2) + (priceAt L R (i - s.1) (k - s.2) s : Int)

theorem come_fold (L R : List Sen) (i k : Nat) : ∀ m, m ≤ 5 → comeM L R i k m = (comesM L R i k m).foldl betterM (-1) := by
  intro m
  induction m with
  | zero => intro _; rfl
  | succ m ih =>
    intro hm
    have e : kinds.take (m + 1) = kinds.take m ++ [kinds.getD m (0, 0)] := by
      have hlt : m < kinds.length := by simp [kinds]; omega
      rw [List.take_add_one, List.getElem?_eq_getElem hlt, List.getD_eq_getElem?_getD, List.getElem?_eq_getElem hlt]
      rfl
    unfold comesM
    rw [e, List.filter_append, List.map_append, List.foldl_append]
    have ih' := ih (by omega)
    unfold comesM at ih'
    rw [← ih', comeM_succ]
    by_cases h : (kinds.getD m (0, 0)).1 ≤ i ∧ (kinds.getD m (0, 0)).2 ≤ k
    · rw [if_pos h, List.filter_cons_of_pos (by simpa using h)]
      rfl
    · rw [if_neg h, List.filter_cons_of_neg (by simpa using h)]
      rfl

/-- What the table says of a place is the least of what comes to it. -/
theorem half_min {L R : List Sen} (hL : MarksOk L) (hR : MarksOk R) {i k : Nat} (hi : i ≤ L.length) (hk : k ≤ R.length) : halfM L R i k = minL (comesM L R i k 5) := by
  unfold halfM
  have h := restM_step L.reverse R.reverse (L.length - i) (R.length - k) (by rw [List.length_reverse]; omega) (by rw [List.length_reverse]; omega)
  rw [h, List.length_reverse, List.length_reverse]
  refine minL_same fun v => ?_
  have h5 : kinds.take 5 = kinds := rfl
  have hmem : ∀ s : Nat × Nat, s ∈ movesM L.length R.length (L.length - i) (R.length - k) ↔ s ∈ kinds ∧ s.1 ≤ i ∧ s.2 ≤ k := fun s => by
    unfold movesM
    rw [List.mem_filter]
    simp only [fitsM, Bool.and_eq_true, decide_eq_true_eq]
    constructor
    · rintro ⟨h1, h2, h3⟩; exact ⟨h1, by omega, by omega⟩
    · rintro ⟨h1, h2, h3⟩; exact ⟨h1, by omega, by omega⟩
  have hval : ∀ s : Nat × Nat, s ∈ kinds → s.1 ≤ i → s.2 ≤ k → (priceAt L.reverse R.reverse (L.length - i) (R.length - k) s : Int) + restM L.reverse R.reverse (L.length - i + s.1) (R.length - k + s.2) = halfM L R (i - s.1) (k - s.2) + (priceAt L R (i - s.1) (k - s.2) s : Int) := fun s h1 h2 h3 => by
    have hs : s ∈ movesM L.length R.length (i - s.1) (k - s.2) := by
      unfold movesM
      rw [List.mem_filter]
      refine ⟨h1, ?_⟩
      simp only [fitsM, Bool.and_eq_true, decide_eq_true_eq]
      omega
    have hp := priceAt_reverse hL hR hs
    rw [show i - s.1 + s.1 = i by omega, show k - s.2 + s.2 = k by omega] at hp
    rw [hp]
    unfold halfM
    rw [show L.length - (i - s.1) = L.length - i + s.1 by omega, show R.length - (k - s.2) = R.length - k + s.2 by omega]
    omega
  unfold comesM
  rw [h5]
  simp only [List.mem_map, List.mem_filter, decide_eq_true_eq]
  constructor
  · rintro ⟨s, hs, rfl⟩
    obtain ⟨h1, h2, h3⟩ := (hmem s).1 hs
    exact ⟨s, ⟨h1, h2, h3⟩, (hval s h1 h2 h3).symm⟩
  · rintro ⟨s, ⟨h1, h2, h3⟩, rfl⟩
    exact ⟨s, (hmem s).2 ⟨h1, h2, h3⟩, hval s h1 h2 h3⟩

theorem half_pos (L R : List Sen) (i k : Nat) : 0 ≤ halfM L R i k := by
  unfold halfM restM
  exact (restF_bd _ _ _ _ _).1

theorem comes_pos (L R : List Sen) (i k m : Nat) : ∀ x ∈ comesM L R i k m, 0 ≤ x := by
  intro x hx
  unfold comesM at hx
  obtain ⟨s, -, rfl⟩ := List.mem_map.1 hx
  have := half_pos L R (i - s.1) (k - s.2)
  omega

/-- What the reference writes. -/
theorem come_all {L R : List Sen} (hL : MarksOk L) (hR : MarksOk R) {i k : Nat} (hi : i ≤ L.length) (hk : k ≤ R.length) : max 0 (comeM L R i k 5) = halfM L R i k := by
  rw [come_fold L R i k 5 (by omega), better_all _ (comes_pos L R i k 5), half_min hL hR hi hk]
  by_cases h : comesM L R i k 5 = []
  · rw [if_pos h, h]; rfl
  · rw [if_neg h]
    have := comes_pos L R i k 5 _ (minL_mem h)
    omega

theorem come_bd {L R : List Sen} (hL : L.length ≤ 20) (hR : R.length ≤ 20) (i k : Nat) : ∀ m, -1 ≤ comeM L R i k m ∧ comeM L R i k m ≤ 90000 := by
  intro m
  induction m with
  | zero => exact ⟨Int.le_refl _, by show (-1 : Int) ≤ 90000; omega⟩
  | succ m ih =>
    rw [comeM_succ]
    split
    · have h1 := half_bd hL hR (i - (kinds.getD m (0, 0)).1) (k - (kinds.getD m (0, 0)).2)
      have h2 := priceM_le (kinds.getD m (0, 0)).1 (kinds.getD m (0, 0)).2 ((L.drop (i - (kinds.getD m (0, 0)).1)).take (kinds.getD m (0, 0)).1) ((R.drop (k - (kinds.getD m (0, 0)).2)).take (kinds.getD m (0, 0)).2)
      unfold priceAt betterM
      split <;> omega
    · exact ih

end Go.Proofs.Ytohahlnhbppnhaa
