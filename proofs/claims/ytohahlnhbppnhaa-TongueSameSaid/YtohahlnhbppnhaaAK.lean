/- Tongue, the laws in numbers: one sentence more at the end of a text. -/
import Derived.Test.YtohahlnhbppnhaaM
namespace Go.Proofs.Ytohahlnhbppnhaa
open Go.RowKit
set_option linter.unusedSimpArgs false
set_option linter.unusedVariables false

theorem minL_le_mem {L : List Int} : ∀ x ∈ L, minL L ≤ x := by
  have hf : ∀ (L : List Int) (x : Int), L.foldl min x ≤ x ∧ ∀ y ∈ L, L.foldl min x ≤ y := by
    intro L
    induction L with
    | nil => exact fun x => ⟨Int.le_refl _, fun y hy => by cases hy⟩
    | cons z L ih =>
      intro x
      rw [List.foldl_cons]
      have h := ih (min x z)
      refine ⟨Int.le_trans h.1 (Int.min_le_left _ _), fun y hy => ?_⟩
      rcases List.mem_cons.1 hy with rfl | hy
      · exact Int.le_trans h.1 (Int.min_le_right _ _)
      · exact h.2 y hy
  cases L with
  | nil => intro x hx; cases hx
  | cons x L =>
    intro y hy
    rcases List.mem_cons.1 hy with rfl | hy
    · exact (hf L _).1
    · exact (hf L x).2 y hy

theorem moves_wider {nl nr i k : Nat} {s : Nat × Nat} (h : s ∈ movesM nl nr i k) : s ∈ movesM (nl + 1) nr i k := by
  unfold movesM at h ⊢
  simp only [List.mem_filter, fitsM, Bool.and_eq_true, decide_eq_true_eq] at h ⊢
  exact ⟨h.1, by omega, h.2.2⟩

theorem price_wider (L R : List Sen) (x : Sen) {i k : Nat} {s : Nat × Nat} (h : i + s.1 ≤ L.length) : priceAt (L ++ [x]) R i k s = priceAt L R i k s := by
  unfold priceAt
  rw [List.drop_append_of_le_length (by omega), List.take_append_of_le_length (by rw [List.length_drop]; omega)]

/-- One sentence more costs at most what it costs alone. -/
theorem restF_more (L R : List Sen) (x : Sen) (n : Nat) : ∀ i k, i ≤ L.length → k ≤ R.length → (L.length - i) + (R.length - k) ≤ n → restF (L ++ [x]) R (n + 1) i k ≤ restF L R n i k + priceM 1 0 [x] [] := by
  have hlen : (L ++ [x]).length = L.length + 1 := by simp
  induction n with
  | zero =>
    intro i k hi hk hn
    have hi' : i = L.length := by omega
    have hk' : k = R.length := by omega
    subst hi' hk'
    unfold restF
    refine Int.le_trans (minL_le_mem ((priceAt (L ++ [x]) R L.length R.length (1, 0) : Int) + restF (L ++ [x]) R 0 (L.length + 1) (R.length + 0)) ?_) ?_
    · refine List.mem_map.2 ⟨(1, 0), ?_, rfl⟩
      unfold movesM kinds
      simp only [List.mem_filter, fitsM, Bool.and_eq_true, decide_eq_true_eq, hlen]
      exact ⟨by simp, by omega, by omega⟩
    · unfold priceAt restF
      simp
  | succ n ih =>
    intro i k hi hk hn
    by_cases hm : movesM L.length R.length i k = []
    · have hik : i = L.length ∧ k = R.length := by
        have hno : ∀ s ∈ kinds, fitsM L.length R.length i k s = false := fun s hs => by
          cases hf : fitsM L.length R.length i k s with
          | false => rfl
          | true =>
            have : s ∈ movesM L.length R.length i k := List.mem_filter.2 ⟨hs, hf⟩
            rw [hm] at this
            cases this
        have h1 := hno (1, 0) (by simp [kinds])
        have h2 := hno (0, 1) (by simp [kinds])
        simp only [fitsM, Bool.and_eq_false_iff, decide_eq_false_iff_not] at h1 h2
        omega
      obtain ⟨rfl, rfl⟩ := hik
      have hz : restF L R (n + 1) L.length R.length = 0 := by
        unfold restF
        rw [hm]
        rfl
      rw [hz]
      unfold restF
      refine Int.le_trans (minL_le_mem ((priceAt (L ++ [x]) R L.length R.length (1, 0) : Int) + restF (L ++ [x]) R (n + 1) (L.length + 1) (R.length + 0)) ?_) ?_
      · refine List.mem_map.2 ⟨(1, 0), ?_, rfl⟩
        unfold movesM kinds
        simp only [List.mem_filter, fitsM, Bool.and_eq_true, decide_eq_true_eq, hlen]
        exact ⟨by simp, by omega, by omega⟩
      · have hend : restF (L ++ [x]) R (n + 1) (L.length + 1) (R.length + 0) = 0 := by
          unfold restF
          rw [hlen, moves_none (by omega)]
          rfl
        rw [hend]
        unfold priceAt
        simp
    · have hmin := minL_mem (L := (movesM L.length R.length i k).map fun s => (priceAt L R i k s : Int) + restF L R n (i + s.1) (k + s.2)) (by simpa using hm)
      obtain ⟨s, hs, he⟩ := List.mem_map.1 hmin
      have hmv := mem_moves hs
      have hr : restF L R (n + 1) i k = (priceAt L R i k s : Int) + restF L R n (i + s.1) (k + s.2) := by
        rw [he]
        rfl
      rw [hr]
      have h2 := ih (i + s.1) (k + s.2) (by omega) (by omega) (by omega)
      have h3 : restF (L ++ [x]) R (n + 1 + 1) i k ≤ (priceAt (L ++ [x]) R i k s : Int) + restF (L ++ [x]) R (n + 1) (i + s.1) (k + s.2) := by
        show minL _ ≤ _
        refine minL_le_mem _ (List.mem_map.2 ⟨s, ?_, rfl⟩)
        rw [hlen]
        exact moves_wider hs
      rw [price_wider L R x hmv.1] at h3
      omega

theorem restM_more (L R : List Sen) (x : Sen) : restM (L ++ [x]) R 0 0 ≤ restM L R 0 0 + priceM 1 0 [x] [] := by
  have h := restF_more L R x (L.length + R.length) 0 0 (by omega) (by omega) (by omega)
  unfold restM
  rw [List.length_append]
  have e1 : (L.length + [x].length - 0) + (R.length - 0) = L.length + R.length + 1 := by simp; omega
  have e2 : (L.length - 0) + (R.length - 0) = L.length + R.length := by omega
  rw [e1, e2]
  exact h

end Go.Proofs.Ytohahlnhbppnhaa
