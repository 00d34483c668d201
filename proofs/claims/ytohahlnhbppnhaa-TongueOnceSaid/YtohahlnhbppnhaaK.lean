/- Tongue: the order of places; the makers of both iterators. -/
import Derived.Test.YtohahlnhbppnhaaJ
namespace Go.Proofs.Ytohahlnhbppnhaa
open Go.RowKit
set_option linter.unusedSimpArgs false
set_option linter.unusedVariables false

theorem mem_rowM {a b : Nat} {x : Nat × Nat} : x ∈ rowM a b ↔ x.1 = a ∧ x.2 < b := by
  unfold rowM
  simp only [List.mem_map, List.mem_reverse, List.mem_range]
  constructor
  · rintro ⟨k, hk, rfl⟩; exact ⟨rfl, hk⟩
  · rintro ⟨h1, h2⟩; exact ⟨x.2, h2, by rw [← h1]⟩

theorem mem_rowsM {nr a : Nat} {x : Nat × Nat} : x ∈ rowsM nr a ↔ x.1 < a ∧ x.2 ≤ nr := by
  unfold rowsM
  simp only [List.mem_flatMap, List.mem_reverse, List.mem_range, mem_rowM]
  constructor
  · rintro ⟨i, hi, h1, h2⟩; omega
  · rintro ⟨h1, h2⟩; exact ⟨x.1, h1, rfl, by omega⟩

/-- Which of two places comes first. -/
def Ahead (x y : Nat × Nat) : Prop := y.1 < x.1 ∨ y.1 = x.1 ∧ y.2 < x.2

theorem rowM_sorted (a b : Nat) : (rowM a b).Pairwise Ahead := by
  induction b with
  | zero => exact List.Pairwise.nil
  | succ b ih =>
    rw [rowM_succ]
    refine List.Pairwise.cons (fun y hy => ?_) ih
    have := mem_rowM.1 hy
    exact .inr this

theorem rowsM_sorted (nr a : Nat) : (rowsM nr a).Pairwise Ahead := by
  induction a with
  | zero => exact List.Pairwise.nil
  | succ a ih =>
    rw [rowsM_succ, List.pairwise_append]
    refine ⟨rowM_sorted _ _, ih, fun x hx y hy => ?_⟩
    have h1 := mem_rowM.1 hx
    have h2 := mem_rowsM.1 hy
    exact .inl (by omega)

theorem place_before {nl nr i k : Nat} {pre rest : List (Nat × Nat)} (h : placesM nl nr = pre ++ (i, k) :: rest) : i ≤ nl ∧ k ≤ nr ∧ ∀ a b, a ≤ nl → b ≤ nr → (i < a ∨ i = a ∧ k < b) → (a, b) ∈ pre := by
  have hs := rowsM_sorted nr (nl + 1)
  have hm : (i, k) ∈ placesM nl nr := by rw [h]; simp
  have hik := mem_rowsM.1 hm
  simp only at hik
  refine ⟨by omega, by omega, fun a b ha hb hab => ?_⟩
  have hmem : (a, b) ∈ placesM nl nr := mem_rowsM.2 ⟨by simp only; omega, hb⟩
  rw [h] at hmem
  unfold placesM at h
  rw [h, List.pairwise_append] at hs
  rcases List.mem_append.1 hmem with e | e
  · exact e
  · rcases List.mem_cons.1 e with e | e
    · cases e; omega
    · have := (List.pairwise_cons.1 hs.2.1).1 _ e
      unfold Ahead at this
      simp only at this
      omega

theorem mem_places {nl nr a b : Nat} (ha : a ≤ nl) (hb : b ≤ nr) : (a, b) ∈ placesM nl nr := mem_rowsM.2 ⟨by simp only; omega, hb⟩

theorem places_length (nl nr : Nat) : (placesM nl nr).length = (nl + 1) * (nr + 1) := by
  have : ∀ a, (rowsM nr a).length = a * (nr + 1) := by
    intro a
    induction a with
    | zero => simp [rowsM]
    | succ a ih =>
      rw [rowsM_succ, List.length_append, ih, Nat.succ_mul]
      simp [rowM]
      omega
  exact this _

set_option maxHeartbeats 400000 in
theorem places_make (v0 v1 v2 v3 v4 v5 v6 : Value) (w : World) :
    Calls Try.prog 94 #[.agg #[v0, v1, v2, v3, v4, v5, v6]] w fun e w' => e = .returned (.func (.func 123) #[] #[.pointer (some ⟨w.heap.size, 0, none⟩)]) ∧ w.alloc (.cells #[v0, v1, v2, v3, v4, v5, v6] 119) = w' := by
  go_enter Try.func94, Try.ntmps94
  go_wp2_with fail
  go_ret
  exact ⟨rfl, rfl⟩

set_option maxHeartbeats 400000 in
theorem next_make (v0 v1 v2 v3 v4 v5 v6 u0 u1 : Value) (w : World) :
    Calls Try.prog 80 #[.agg #[v0, v1, v2, v3, v4, v5, v6], .agg #[u0, u1]] w fun e w' => e = .returned (.func (.func 112) #[] #[.pointer (some ⟨w.heap.size, 0, none⟩), .pointer (some ⟨w.heap.size + 1, 0, none⟩)]) ∧
      (w.alloc (.cells #[v0, v1, v2, v3, v4, v5, v6] 119)).alloc (.cells #[u0, u1] 150) = w' := by
  go_enter Try.func80, Try.ntmps80
  go_wp2_with fail
  go_ret
  exact ⟨rfl, rfl⟩

end Go.Proofs.Ytohahlnhbppnhaa
