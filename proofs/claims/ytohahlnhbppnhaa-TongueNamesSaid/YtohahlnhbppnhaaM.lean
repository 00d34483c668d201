/- Tongue: the best match, in numbers. -/
import Derived.Test.YtohahlnhbppnhaaK
namespace Go.Proofs.Ytohahlnhbppnhaa
open Go.RowKit
set_option linter.unusedSimpArgs false
set_option linter.unusedVariables false

/-- Is what is left as cheap as it can be, with this step? -/
def fitM (L R : List Sen) (i k : Nat) (s : Nat × Nat) : Bool := decide ((priceAt L R i k s : Int) + restM L R (i + s.1) (k + s.2) = restM L R i k)

/-- The steps of the best match, from a place on. -/
def bestF (L R : List Sen) : Nat → Nat → Nat → List (Nat × Nat)
  | 0, _, _ => []
  | n + 1, i, k => match (movesM L.length R.length i k).find? (fitM L R i k) with
    | none => []
    | some s => s :: bestF L R n (i + s.1) (k + s.2)

def bestM (L R : List Sen) (i k : Nat) : List (Nat × Nat) := bestF L R ((L.length - i) + (R.length - k)) i k

theorem moves_none {nl nr i k : Nat} (h : (nl - i) + (nr - k) = 0) : movesM nl nr i k = [] := by
  rw [List.eq_nil_iff_forall_not_mem]
  intro s hs
  have := mem_moves hs
  omega

theorem bestF_fuel (L R : List Sen) : ∀ (n i k : Nat), (L.length - i) + (R.length - k) ≤ n → bestF L R n i k = bestM L R i k := by
  intro n
  induction n using Nat.strongRecOn with
  | _ n ih =>
    intro i k h
    unfold bestM
    cases n with
    | zero => rw [Nat.le_zero.1 h]
    | succ n =>
      cases hm : (L.length - i) + (R.length - k) with
      | zero => rw [bestF, bestF, moves_none hm]; rfl
      | succ m =>
        rw [bestF, bestF]
        cases hf : (movesM L.length R.length i k).find? (fitM L R i k) with
        | none => rfl
        | some s =>
          have hb := mem_moves (List.mem_of_find?_eq_some hf)
          simp only [List.cons.injEq, true_and]
          rw [ih n (by omega) _ _ (by omega), ih m (by omega) _ _ (by omega)]

theorem bestM_end {L R : List Sen} {i k : Nat} (h : movesM L.length R.length i k = []) : bestM L R i k = [] := by
  unfold bestM
  cases (L.length - i) + (R.length - k) with
  | zero => rfl
  | succ n => rw [bestF, h]; rfl

theorem bestM_step {L R : List Sen} {i k : Nat} {pre rest : List (Nat × Nat)} {s : Nat × Nat} (h : movesM L.length R.length i k = pre ++ s :: rest) (hpre : ∀ t ∈ pre, fitM L R i k t = false) (hs : fitM L R i k s = true) :
    bestM L R i k = s :: bestM L R (i + s.1) (k + s.2) := by
  have hmem : s ∈ movesM L.length R.length i k := by rw [h]; simp
  have hb := mem_moves hmem
  have hfind : (movesM L.length R.length i k).find? (fitM L R i k) = some s := by
    rw [h, List.find?_append]
    have : pre.find? (fitM L R i k) = none := List.find?_eq_none.2 fun t ht => by rw [hpre t ht]; simp
    rw [this]
    simp [List.find?, hs]
  conv => lhs; unfold bestM
  cases hm : (L.length - i) + (R.length - k) with
  | zero => omega
  | succ n =>
    rw [bestF, hfind]
    simp only [List.cons.injEq, true_and]
    exact bestF_fuel L R n _ _ (by omega)

theorem minL_mem {L : List Int} (h : L ≠ []) : minL L ∈ L := by
  cases L with
  | nil => exact absurd rfl h
  | cons x L =>
    rcases foldl_min_mem x L with e | e
    · show L.foldl min x ∈ _
      rw [e]; simp
    · exact List.mem_cons_of_mem _ e

theorem fit_exists (L R : List Sen) (i k : Nat) (hi : i ≤ L.length) (hk : k ≤ R.length) (h : movesM L.length R.length i k ≠ []) : ∃ s ∈ movesM L.length R.length i k, fitM L R i k s = true := by
  have hst := restM_step L R i k hi hk
  have hm := minL_mem (L := (movesM L.length R.length i k).map fun s => (priceAt L R i k s : Int) + restM L R (i + s.1) (k + s.2)) (by simpa using h)
  rw [← hst] at hm
  obtain ⟨s, hs, e⟩ := List.mem_map.1 hm
  exact ⟨s, hs, by unfold fitM; rw [e]; simp⟩

/-- Steps, as cells. -/
def flatS : List (Nat × Nat) → List Value
  | [] => []
  | x :: l => .int .i64 (x.1 : Int) :: .int .i64 (x.2 : Int) :: flatS l

theorem flatS_append (l m : List (Nat × Nat)) : flatS (l ++ m) = flatS l ++ flatS m := by
  induction l with
  | nil => rfl
  | cons x l ih => simp [flatS, ih]

theorem flatS_length (l : List (Nat × Nat)) : (flatS l).length = l.length * 2 := by
  induction l with
  | nil => rfl
  | cons x l ih => simp [flatS, ih]; omega

theorem flatS_get (l : List (Nat × Nat)) : ∀ i, i < l.length → (flatS l)[i * 2]? = some (.int .i64 ((l.getD i (0, 0)).1 : Int)) ∧ (flatS l)[i * 2 + 1]? = some (.int .i64 ((l.getD i (0, 0)).2 : Int)) := by
  induction l with
  | nil => intro i h; simp at h
  | cons x l ih =>
    intro i h
    cases i with
    | zero => simp [flatS]
    | succ i =>
      have := ih i (by simpa using h)
      rw [show (i + 1) * 2 = i * 2 + 2 from by omega]
      simpa [flatS] using this

theorem bestF_length (L R : List Sen) (n : Nat) : ∀ i k, (bestF L R n i k).length ≤ n := by
  induction n with
  | zero => intro i k; simp [bestF]
  | succ n ih =>
    intro i k
    rw [bestF]
    split
    · simp
    · simp only [List.length_cons]
      have := ih (i + (by assumption : Nat × Nat).1) (k + (by assumption : Nat × Nat).2)
      omega

end Go.Proofs.Ytohahlnhbppnhaa
