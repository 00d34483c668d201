/- Tongue, the laws in numbers: a text and itself; a text and nothing. -/
import Derived.Test.YtohahlnhbppnhaaAP
namespace Go.Proofs.Ytohahlnhbppnhaa
open Go.RowKit
set_option linter.unusedSimpArgs false
set_option linter.unusedVariables false

theorem rest_nonneg (L R : List Sen) (i k : Nat) : 0 ≤ restM L R i k := (restF_bd L R _ i k).1

theorem price_same (L : List Sen) {i : Nat} : priceAt L L i i (1, 1) = 0 := by
  unfold priceAt priceM sidesM
  simp only
  rw [apartM_self]
  rfl

theorem rest_same (L : List Sen) : ∀ d i, L.length - i = d → i ≤ L.length → restM L L i i = 0 := by
  intro d
  induction d with
  | zero =>
    intro i hd hi
    have e : (L.length - i) + (L.length - i) = 0 := by omega
    unfold restM
    rw [e]
    rfl
  | succ d ih =>
    intro i hd hi
    have hi' : i < L.length := by omega
    have h1 := ih (i + 1) (by omega) (by omega)
    have hst := restM_step L L i i hi hi
    have hm : (1, 1) ∈ movesM L.length L.length i i := by
      unfold movesM kinds
      simp only [List.mem_filter, fitsM, Bool.and_eq_true, decide_eq_true_eq]
      exact ⟨by simp, by omega, by omega⟩
    have h2 := rest_nonneg L L i i
    have h3 : restM L L i i ≤ (priceAt L L i i (1, 1) : Int) + restM L L (i + 1) (i + 1) := by
      rw [hst]
      exact minL_le_mem _ (List.mem_map.2 ⟨(1, 1), hm, rfl⟩)
    rw [price_same, h1] at h3
    omega

theorem two_dear (L R : List Sen) (i k x y : Nat) (h : x = 2 ∨ y = 2) : 1 ≤ priceAt L R i k (x, y) := by
  unfold priceAt priceM sidesM
  rcases h with rfl | rfl
  · simp; omega
  · simp; omega

theorem best_same (L : List Sen) : ∀ d i, L.length - i = d → i ≤ L.length → bestM L L i i = List.replicate d (1, 1) := by
  intro d
  induction d with
  | zero =>
    intro i hd hi
    have e : (L.length - i) + (L.length - i) = 0 := by omega
    unfold bestM
    rw [e]
    rfl
  | succ d ih =>
    intro i hd hi
    have hi' : i < L.length := by omega
    have hr := rest_same L (L.length - i) i rfl hi
    have h11 : fitM L L i i (1, 1) = true := by
      unfold fitM
      rw [price_same, hr, rest_same L (L.length - (i + 1)) (i + 1) rfl (by omega)]
      rfl
    have hno : ∀ t : Nat × Nat, (t.1 = 2 ∨ t.2 = 2) → fitM L L i i t = false := by
      rintro ⟨x, y⟩ h
      have := two_dear L L i i x y h
      have h2 := rest_nonneg L L (i + x) (i + y)
      unfold fitM
      rw [hr]
      simp only [decide_eq_false_iff_not]
      omega
    obtain ⟨pre, hpre, rest, hmv⟩ : ∃ pre : List (Nat × Nat), (∀ t ∈ pre, t.1 = 2 ∨ t.2 = 2) ∧ ∃ rest, movesM L.length L.length i i = pre ++ (1, 1) :: rest := by
      refine ⟨[(2, 1), (1, 2)].filter (fitsM L.length L.length i i), fun t ht => ?_, [(1, 0), (0, 1)].filter (fitsM L.length L.length i i), ?_⟩
      · have := (List.mem_filter.1 ht).1
        simp only [List.mem_cons, List.not_mem_nil, or_false] at this
        rcases this with rfl | rfl
        · exact Or.inl rfl
        · exact Or.inr rfl
      · have hk : kinds = [(2, 1), (1, 2)] ++ (1, 1) :: [(1, 0), (0, 1)] := rfl
        unfold movesM
        have hf : fitsM L.length L.length i i (1, 1) = true := by
          simp only [fitsM, Bool.and_eq_true, decide_eq_true_eq]
          exact ⟨by omega, by omega⟩
        rw [hk, List.filter_append, List.filter_cons_of_pos hf]
    rw [bestM_step hmv (fun t ht => hno t (hpre t ht)) h11, ih (i + 1) (by omega) (by omega), List.replicate_succ]

/-- What sentences cost alone. -/
def aloneC (L : List Sen) : Nat := (L.map fun s => 3 + 2 * s.marks.length).sum

theorem moves_left {nl i : Nat} (h : i < nl) : movesM nl 0 i 0 = [(1, 0)] := by
  unfold movesM kinds
  have e1 : fitsM nl 0 i 0 (2, 1) = false := by simp [fitsM]
  have e2 : fitsM nl 0 i 0 (1, 2) = false := by simp [fitsM]
  have e3 : fitsM nl 0 i 0 (1, 1) = false := by simp [fitsM]
  have e4 : fitsM nl 0 i 0 (1, 0) = true := by simp [fitsM]; omega
  have e5 : fitsM nl 0 i 0 (0, 1) = false := by simp [fitsM]
  simp [List.filter, e1, e2, e3, e4, e5]

theorem price_alone {L : List Sen} (hok : MarksOk L) (hnd : ∀ s ∈ L, s.marks.Nodup) {i : Nat} (hi : i < L.length) : priceAt L [] i 0 (1, 0) = 3 + 2 * (L.getD i default).marks.length := by
  have hx : (L.drop i).take 1 = [L.getD i default] := by
    rw [List.drop_eq_getElem_cons hi, List.getD_eq_getElem?_getD, List.getElem?_eq_getElem hi]
    rfl
  have hmem : L.getD i default ∈ L := by
    rw [List.getD_eq_getElem?_getD, List.getElem?_eq_getElem hi]
    exact List.getElem_mem hi
  unfold priceAt priceM sidesM
  simp only [List.drop_nil, List.take_nil]
  rw [hx]
  generalize L.getD i default = s at hmem
  have hs := hok s hmem
  have hn := hnd s hmem
  have hap : apartM [s] [] = s.marks.length := by
    rw [apartM_count (fun t ht => by rw [List.mem_singleton.1 ht]; exact hs) (fun t ht => by cases ht)]
    have h1 : marksOf [s] = s.marks := by simp [marksOf]
    have h2 : marksOf [] = [] := rfl
    rw [h1, h2, ← count_list s.marks 1024 hn (fun x hx => by have := hs x hx; omega)]
    refine List.countP_congr fun m hm => ?_
    simp
  rw [hap]
  simp only [if_true, show (1 : Nat) ≠ 0 by decide, show (1 : Nat) ≠ 2 by decide, show (0 : Nat) ≠ 2 by decide, if_false]
  omega

theorem alone_rest {L : List Sen} (hok : MarksOk L) (hnd : ∀ s ∈ L, s.marks.Nodup) : ∀ d i, L.length - i = d → i ≤ L.length → restM L [] i 0 = (aloneC (L.drop i) : Nat) ∧ bestM L [] i 0 = List.replicate d (1, 0) := by
  intro d
  induction d with
  | zero =>
    intro i hd hi
    have e : (L.length - i) + (([] : List Sen).length - 0) = 0 := by simp; omega
    unfold restM bestM
    rw [e, List.drop_eq_nil_of_le (by omega)]
    exact ⟨rfl, rfl⟩
  | succ d ih =>
    intro i hd hi
    have hi' : i < L.length := by omega
    obtain ⟨h1, h2⟩ := ih (i + 1) (by omega) (by omega)
    have hst := restM_step L [] i 0 hi (Nat.le_refl _)
    have hm : movesM L.length ([] : List Sen).length i 0 = [(1, 0)] := moves_left hi'
    have hp := price_alone hok hnd hi'
    have hr : restM L [] i 0 = (priceAt L [] i 0 (1, 0) : Int) + restM L [] (i + 1) 0 := by
      rw [hst, hm]
      rfl
    refine ⟨?_, ?_⟩
    · rw [hr, hp, h1]
      have : L.drop i = L.getD i default :: L.drop (i + 1) := by
        rw [List.drop_eq_getElem_cons hi', List.getD_eq_getElem?_getD, List.getElem?_eq_getElem hi']
        rfl
      rw [this]
      unfold aloneC
      rw [List.map_cons, List.sum_cons]
      omega
    · rw [bestM_step (pre := []) (rest := []) hm (fun t ht => by cases ht) (by unfold fitM; rw [hr]; simp), List.replicate_succ]
      exact congrArg _ h2

theorem aloneC_take (L : List Sen) (j : Nat) (hj : j < L.length) : aloneC (L.take (j + 1)) = aloneC (L.take j) + (3 + 2 * (L.getD j default).marks.length) := by
  unfold aloneC
  rw [List.take_add_one, List.map_append, List.sum_append, List.getD_eq_getElem?_getD, List.getElem?_eq_getElem hj]
  simp

end Go.Proofs.Ytohahlnhbppnhaa
