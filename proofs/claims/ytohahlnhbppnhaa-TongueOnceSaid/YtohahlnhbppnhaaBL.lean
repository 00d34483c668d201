/- Tongue, the reference: which steps are a match. -/
import Derived.Test.YtohahlnhbppnhaaBA
namespace Go.Proofs.Ytohahlnhbppnhaa
open Go.RowKit
set_option linter.unusedSimpArgs false
set_option linter.unusedVariables false

/-- Is a step one of the kinds? -/
def kindOk (s : Int × Int) : Bool := decide (s ∈ kindsI)

/-- Sums of steps. -/
def sumL (l : List (Int × Int)) : Int := (l.map Prod.fst).sum
def sumR (l : List (Int × Int)) : Int := (l.map Prod.snd).sum

/-- Are steps a match, by their kinds and sums? -/
def isM (nl nr : Nat) (l : List (Int × Int)) : Bool := l.all kindOk && (decide (sumL l = nl) && decide (sumR l = nr))

theorem kind_at {s : Int × Int} (h : kindOk s = true) : ∃ at_, at_ < 5 ∧ kindsI.getD at_ (0, 0) = s := by
  unfold kindOk at h
  rw [decide_eq_true_eq] at h
  unfold kindsI at h ⊢
  simp only [List.mem_cons, List.not_mem_nil, or_false] at h
  rcases h with rfl | rfl | rfl | rfl | rfl
  · exact ⟨0, by decide, rfl⟩
  · exact ⟨1, by decide, rfl⟩
  · exact ⟨2, by decide, rfl⟩
  · exact ⟨3, by decide, rfl⟩
  · exact ⟨4, by decide, rfl⟩

theorem kind_bd {s : Int × Int} (h : kindOk s = true) : 0 ≤ s.1 ∧ s.1 ≤ 2 ∧ 0 ≤ s.2 ∧ s.2 ≤ 2 := by
  obtain ⟨a, ha, rfl⟩ := kind_at h
  have := kinds_bd a ha
  omega

theorem sums_pos {l : List (Int × Int)} (h : l.all kindOk = true) : 0 ≤ sumL l ∧ 0 ≤ sumR l := by
  induction l with
  | nil => exact ⟨Int.le_refl _, Int.le_refl _⟩
  | cons s l ih =>
    rw [List.all_cons, Bool.and_eq_true] at h
    have h1 := kind_bd h.1
    have h2 := ih h.2
    have e1 : sumL (s :: l) = s.1 + sumL l := rfl
    have e2 : sumR (s :: l) = s.2 + sumR l := rfl
    omega

theorem go_of_kinds (nl nr : Nat) (l : List (Int × Int)) : ∀ i k : Nat, l.all kindOk = true → (i : Int) + sumL l = nl → (k : Int) + sumR l = nr → ∃ ms, goM nl nr l i k = some (ms, nl, nr) := by
  induction l with
  | nil =>
    intro i k _ h1 h2
    have e1 : sumL [] = 0 := rfl
    have e2 : sumR [] = 0 := rfl
    rw [e1] at h1
    rw [e2] at h2
    have : i = nl := by omega
    have : k = nr := by omega
    subst i k
    exact ⟨[], rfl⟩
  | cons s l ih =>
    intro i k h h1 h2
    rw [List.all_cons, Bool.and_eq_true] at h
    have hp := sums_pos h.2
    have hb := kind_bd h.1
    have e1 : sumL (s :: l) = s.1 + sumL l := rfl
    have e2 : sumR (s :: l) = s.2 + sumR l := rfl
    rw [e1] at h1
    rw [e2] at h2
    obtain ⟨a, ha, hs⟩ := kind_at h.1
    have htk := take_kind (nl := nl) (nr := nr) (i := i) (k := k) ha (by rw [hs]; omega) (by rw [hs]; omega)
    rw [hs] at htk
    obtain ⟨ms, hms⟩ := ih (i + s.1.toNat) (k + s.2.toNat) h.2 (by omega) (by omega)
    refine ⟨(i, k, s.1.toNat, s.2.toNat) :: ms, ?_⟩
    unfold goM
    simp only [htk, hms, Option.map_some]

theorem kinds_of_go (nl nr : Nat) (l : List (Int × Int)) : ∀ (i k : Nat) (ms : List (Nat × Nat × Nat × Nat)) (a c : Nat), goM nl nr l i k = some (ms, a, c) → l.all kindOk = true ∧ (i : Int) + sumL l = a ∧ (k : Int) + sumR l = c := by
  induction l with
  | nil =>
    intro i k ms a c h
    simp only [goM, Option.some.injEq, Prod.mk.injEq] at h
    obtain ⟨rfl, rfl, rfl⟩ := h
    exact ⟨rfl, by show (i : Int) + 0 = i; omega, by show (k : Int) + 0 = k; omega⟩
  | cons s l ih =>
    intro i k ms a c h
    simp only [goM] at h
    cases hx : takeM nl nr i k s.1 s.2 with
    | none => rw [hx] at h; cases h
    | some t =>
      rw [hx] at h
      simp only at h
      obtain ⟨hm, e1, e2⟩ := take_mem hx
      cases hg : goM nl nr l (i + t.1) (k + t.2) with
      | none => rw [hg] at h; cases h
      | some r =>
        rw [hg] at h
        obtain ⟨ms', a', c'⟩ := r
        simp only [Option.map_some, Option.some.injEq, Prod.mk.injEq] at h
        obtain ⟨rfl, rfl, rfl⟩ := h
        obtain ⟨h1, h2, h3⟩ := ih _ _ _ _ _ hg
        have hk : t ∈ kinds := by unfold movesM at hm; exact (List.mem_filter.1 hm).1
        have hko : kindOk s = true := by
          obtain ⟨s1, s2⟩ := s
          obtain ⟨t1, t2⟩ := t
          simp only at e1 e2
          unfold kinds at hk
          simp only [List.mem_cons, List.not_mem_nil, or_false, Prod.mk.injEq] at hk
          unfold kindOk kindsI
          rw [decide_eq_true_eq]
          simp only [List.mem_cons, List.not_mem_nil, or_false, Prod.mk.injEq]
          omega
        have d1 : sumL (s :: l) = s.1 + sumL l := rfl
        have d2 : sumR (s :: l) = s.2 + sumR l := rfl
        refine ⟨by rw [List.all_cons, hko, h1]; rfl, by omega, by omega⟩

theorem isM_match (nl nr : Nat) (l : List (Int × Int)) : isM nl nr l = (matchM nl nr l).isSome := by
  cases h : isM nl nr l with
  | true =>
    unfold isM at h
    simp only [Bool.and_eq_true, decide_eq_true_eq] at h
    obtain ⟨ms, hg⟩ := go_of_kinds nl nr l 0 0 h.1 (by omega) (by omega)
    unfold matchM
    rw [hg]
    simp
  | false =>
    cases hm : matchM nl nr l with
    | none => rfl
    | some ms =>
      obtain ⟨h1, h2, h3⟩ := kinds_of_go nl nr l 0 0 ms nl nr (match_parts hm)
      unfold isM at h
      rw [h1] at h
      simp only [Bool.true_and, Bool.and_eq_false_iff, decide_eq_false_iff_not] at h
      omega

end Go.Proofs.Ytohahlnhbppnhaa
