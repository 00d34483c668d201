/- Tongue, the laws: numbers of the stage's theorem. -/
import Derived.Test.YtohahlnhbppnhaaCJ
import Derived.Test.YtohahlnhbppnhaaCK
import Derived.Test.YtohahlnhbppnhaaCD
namespace Go.Proofs.Ytohahlnhbppnhaa
open Go.RowKit
set_option linter.unusedSimpArgs false
set_option linter.unusedVariables false

theorem gridF_at {n m : Nat} {F : Nat → Nat → Int} {i k : Nat} (hi : i < n) (hk : k < m) : gridF (gridL n m F) i k = F i k := gridL_at n m F i k hi hk

theorem half_covers {L R : List Sen} (hL : L.length ≤ 20) (hR : R.length ≤ 20) : coversM (L.length + 1) (R.length + 1) (gridL (L.length + 1) (R.length + 1) (halfM L R)) = true := by
  unfold coversM
  rw [Bool.and_eq_true, decide_eq_true_eq, List.all_eq_true]
  refine ⟨gridL_length _ _ _, fun r hr => ?_⟩
  unfold gridL at hr
  rw [List.mem_map] at hr
  obtain ⟨i, -, rfl⟩ := hr
  unfold okRow
  rw [Bool.and_eq_true, decide_eq_true_eq, List.all_eq_true]
  refine ⟨by simp, fun z hz => ?_⟩
  rw [List.mem_map] at hz
  obtain ⟨k, -, rfl⟩ := hz
  have := half_bd hL hR i k
  unfold okN inB
  rw [decide_eq_true_eq]
  omega

theorem half_proves {L R : List Sen} (hL : L.length ≤ 20) (hR : R.length ≤ 20) (mL : MarksOk L) (mR : MarksOk R) (hf : faultM L R = 0) : proveM L R (gridL (L.length + 1) (R.length + 1) (halfM L R)) (restM L R 0 0) = true := by
  unfold proveM
  rw [half_covers hL hR, decide_eq_true hf, Bool.true_and, Bool.true_and]
  unfold provesB
  have h1 : rightB L R (gridF (gridL (L.length + 1) (R.length + 1) (halfM L R))) L.length R.length = true := by
    rw [rightB_iff]
    intro i k hi hk s hs
    obtain ⟨h1, h2, -, -, -⟩ := mem_moves hs
    rw [gridF_at (by omega) (by omega), gridF_at (by omega) (by omega)]
    exact halfM_step mL mR hs
  rw [h1, gridF_at (by omega) (by omega), gridF_at (by omega) (by omega), halfM_zero, half_end mL mR]
  simp

theorem proved_le {L R : List Sen} {T : List (List Int)} {cost : Int} (h : proveM L R T cost = true) : cost ≤ restM L R 0 0 := by
  unfold proveM provesB at h
  simp only [Bool.and_eq_true, decide_eq_true_eq] at h
  obtain ⟨-, -, hr, h0, hc⟩ := h
  have := table_le ((rightB_iff L R _).1 hr) h0
  omega

theorem pairs_steps {W : World} {a : Option Addr} {l : List (Nat × Nat)} (h : StepsAt W a l) : PairsAt W a (pairsI l) := by
  intro i hi
  unfold pairsI at hi
  rw [List.length_map] at hi
  obtain ⟨b, off, e, c1, c2⟩ := h i hi
  rw [pairsI_get]
  exact ⟨b, off, e, c1, c2⟩

end Go.Proofs.Ytohahlnhbppnhaa
