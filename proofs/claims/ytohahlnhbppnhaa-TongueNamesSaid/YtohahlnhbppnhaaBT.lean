/- Tongue, in numbers: the table of halves, the best match among all, what a table proves. -/
import Derived.Test.YtohahlnhbppnhaaAP
import Derived.Test.YtohahlnhbppnhaaBN
namespace Go.Proofs.Ytohahlnhbppnhaa
open Go.RowKit
set_option linter.unusedSimpArgs false
set_option linter.unusedVariables false

theorem mem_marksOf {T : List Sen} {x : Int} : x ∈ marksOf T ↔ ∃ s ∈ T, x ∈ s.marks := by
  unfold marksOf
  rw [List.mem_flatten]
  constructor
  · rintro ⟨l, hl, hx⟩
    obtain ⟨s, hs, rfl⟩ := List.mem_map.1 hl
    exact ⟨s, hs, hx⟩
  · rintro ⟨s, hs, hx⟩
    exact ⟨_, List.mem_map.2 ⟨s, hs, rfl⟩, hx⟩

theorem marksOf_reverse {T : List Sen} {x : Int} : x ∈ marksOf T.reverse ↔ x ∈ marksOf T := by
  rw [mem_marksOf, mem_marksOf]
  simp

theorem marksOk_reverse {T : List Sen} (h : MarksOk T) : MarksOk T.reverse := fun s hs => h s (List.mem_reverse.1 hs)

theorem apartM_reverse {T U : List Sen} (hT : MarksOk T) (hU : MarksOk U) : apartM T.reverse U.reverse = apartM T U := by
  rw [apartM_count (marksOk_reverse hT) (marksOk_reverse hU), apartM_count hT hU]
  refine List.countP_congr fun m _ => ?_
  simp only [marksOf_reverse]

theorem part_reverse (T : List Sen) (i x : Nat) (h : i + x ≤ T.length) : (T.reverse.drop (T.length - (i + x))).take x = ((T.drop i).take x).reverse := by
  rw [List.drop_reverse, List.take_reverse, show T.length - (T.length - (i + x)) = i + x by omega, List.length_take, show min (i + x) T.length - x = i by omega, List.drop_take, show i + x - i = x by omega]

theorem MarksOk.sub {T : List Sen} (h : MarksOk T) (l k : Nat) : MarksOk ((T.drop l).take k) := fun s hs => h s (List.mem_of_mem_drop (List.mem_of_mem_take hs))

theorem priceAt_reverse {L R : List Sen} (hL : MarksOk L) (hR : MarksOk R) {i k : Nat} {s : Nat × Nat} (hs : s ∈ movesM L.length R.length i k) : priceAt L.reverse R.reverse (L.length - (i + s.1)) (R.length - (k + s.2)) s = priceAt L R i k s := by
  obtain ⟨h1, h2, -, -, -⟩ := mem_moves hs
  unfold priceAt priceM
  rw [part_reverse L i s.1 h1, part_reverse R k s.2 h2, apartM_reverse (hL.sub _ _) (hR.sub _ _)]

theorem moves_reverse {nl nr i k : Nat} {s : Nat × Nat} (hs : s ∈ movesM nl nr i k) : s ∈ movesM nl nr (nl - (i + s.1)) (nr - (k + s.2)) := by
  obtain ⟨h1, h2, -, -, -⟩ := mem_moves hs
  unfold movesM at hs ⊢
  rw [List.mem_filter] at hs ⊢
  refine ⟨hs.1, ?_⟩
  simp only [fitsM, Bool.and_eq_true, decide_eq_true_eq]
  omega

/-- The least cost of a match of the first i left and k right sentences. -/
def halfM (L R : List Sen) (i k : Nat) : Int := restM L.reverse R.reverse (L.length - i) (R.length - k)

theorem restM_end (L R : List Sen) : restM L R L.length R.length = 0 := by
  unfold restM
  simp [restF]

theorem restM_le {L R : List Sen} {i k : Nat} (hi : i ≤ L.length) (hk : k ≤ R.length) {s : Nat × Nat} (hs : s ∈ movesM L.length R.length i k) : restM L R i k ≤ (priceAt L R i k s : Int) + restM L R (i + s.1) (k + s.2) := by
  rw [restM_step L R i k hi hk]
  exact minL_least _ (List.mem_map.2 ⟨s, hs, rfl⟩)

theorem halfM_zero (L R : List Sen) : halfM L R 0 0 = 0 := by
  have := restM_end L.reverse R.reverse
  rw [List.length_reverse, List.length_reverse] at this
  exact this

theorem halfM_step {L R : List Sen} (hL : MarksOk L) (hR : MarksOk R) {i k : Nat} {s : Nat × Nat} (hs : s ∈ movesM L.length R.length i k) : halfM L R (i + s.1) (k + s.2) ≤ halfM L R i k + (priceAt L R i k s : Int) := by
  obtain ⟨h1, h2, -, -, -⟩ := mem_moves hs
  have h := restM_le (L := L.reverse) (R := R.reverse) (i := L.length - (i + s.1)) (k := R.length - (k + s.2)) (by rw [List.length_reverse]; omega) (by rw [List.length_reverse]; omega) (s := s) (by rw [List.length_reverse, List.length_reverse]; exact moves_reverse hs)
  rw [priceAt_reverse hL hR hs, show L.length - (i + s.1) + s.1 = L.length - i by omega, show R.length - (k + s.2) + s.2 = R.length - k by omega] at h
  unfold halfM
  omega

/-- Whether no number is above the one from which a step comes, and the step's price. -/
def Right (L R : List Sen) (f : Nat → Nat → Int) : Prop := ∀ i k, i ≤ L.length → k ≤ R.length → ∀ s ∈ movesM L.length R.length i k, f (i + s.1) (k + s.2) ≤ f i k + (priceAt L R i k s : Int)

theorem moves_ne {nl nr i k : Nat} (hi : i ≤ nl) (hk : k ≤ nr) (h : (nl - i) + (nr - k) ≠ 0) : movesM nl nr i k ≠ [] := by
  intro e
  by_cases h1 : i < nl
  · have : (1, 0) ∈ movesM nl nr i k := by
      unfold movesM
      rw [List.mem_filter]
      refine ⟨by decide, ?_⟩
      simp only [fitsM, Bool.and_eq_true, decide_eq_true_eq]
      omega
    rw [e] at this
    cases this
  · have : (0, 1) ∈ movesM nl nr i k := by
      unfold movesM
      rw [List.mem_filter]
      refine ⟨by decide, ?_⟩
      simp only [fitsM, Bool.and_eq_true, decide_eq_true_eq]
      omega
    rw [e] at this
    cases this

theorem right_le {L R : List Sen} {f : Nat → Nat → Int} (h : Right L R f) : ∀ (n i k : Nat), (L.length - i) + (R.length - k) ≤ n → i ≤ L.length → k ≤ R.length → f L.length R.length ≤ f i k + restM L R i k := by
  intro n
  induction n with
  | zero =>
    intro i k hn hi hk
    obtain rfl : i = L.length := by omega
    obtain rfl : k = R.length := by omega
    rw [restM_end]
    omega
  | succ n ih =>
    intro i k hn hi hk
    by_cases h0 : (L.length - i) + (R.length - k) = 0
    · obtain rfl : i = L.length := by omega
      obtain rfl : k = R.length := by omega
      rw [restM_end]
      omega
    · obtain ⟨s, hs, hf⟩ := fit_exists L R i k hi hk (moves_ne hi hk h0)
      unfold fitM at hf
      rw [decide_eq_true_eq] at hf
      obtain ⟨h1, h2, h3, -, -⟩ := mem_moves hs
      have a := ih (i + s.1) (k + s.2) (by omega) h1 h2
      have b := h i k hi hk s hs
      omega

theorem half_right {L R : List Sen} (hL : MarksOk L) (hR : MarksOk R) : Right L R (halfM L R) := fun i k _ _ s hs => halfM_step hL hR hs

theorem half_end {L R : List Sen} (hL : MarksOk L) (hR : MarksOk R) : halfM L R L.length R.length = restM L R 0 0 := by
  refine Int.le_antisymm ?_ ?_
  · have := right_le (half_right hL hR) _ 0 0 (Nat.le_refl _) (Nat.zero_le _) (Nat.zero_le _)
    rw [halfM_zero] at this
    omega
  · have := right_le (half_right (marksOk_reverse hL) (marksOk_reverse hR)) _ 0 0 (Nat.le_refl _) (Nat.zero_le _) (Nat.zero_le _)
    rw [halfM_zero] at this
    unfold halfM at this ⊢
    simp only [List.reverse_reverse, List.length_reverse, Nat.sub_self] at this ⊢
    omega

theorem restM_20 {L R : List Sen} (hL : L.length ≤ 20) (hR : R.length ≤ 20) (i k : Nat) : 0 ≤ restM L R i k ∧ restM L R i k ≤ 82400 := by
  unfold restM
  have := restF_bd L R ((L.length - i) + (R.length - k)) i k
  omega

theorem half_bd {L R : List Sen} (hL : L.length ≤ 20) (hR : R.length ≤ 20) (i k : Nat) : 0 ≤ halfM L R i k ∧ halfM L R i k ≤ 82400 := restM_20 (by rw [List.length_reverse]; exact hL) (by rw [List.length_reverse]; exact hR) _ _

theorem go_cost (L R : List Sen) (l : List (Int × Int)) : ∀ (i k : Nat) (ms : List (Nat × Nat × Nat × Nat)), i ≤ L.length → k ≤ R.length → goM L.length R.length l i k = some (ms, L.length, R.length) → restM L R i k ≤ (costM L R ms : Int) := by
  induction l with
  | nil =>
    intro i k ms hi hk h
    simp only [goM, Option.some.injEq, Prod.mk.injEq] at h
    obtain ⟨rfl, rfl, rfl⟩ := h
    rw [restM_end]
    exact Int.natCast_nonneg _
  | cons s l ih =>
    intro i k ms hi hk h
    simp only [goM] at h
    cases hx : takeM L.length R.length i k s.1 s.2 with
    | none => rw [hx] at h; cases h
    | some t =>
      rw [hx] at h
      simp only at h
      obtain ⟨hm, -, -⟩ := take_mem hx
      obtain ⟨m1, m2, -, -, -⟩ := mem_moves hm
      cases hg : goM L.length R.length l (i + t.1) (k + t.2) with
      | none => rw [hg] at h; cases h
      | some r =>
        rw [hg] at h
        obtain ⟨ms', a', c'⟩ := r
        simp only [Option.map_some, Option.some.injEq, Prod.mk.injEq] at h
        obtain ⟨rfl, rfl, rfl⟩ := h
        have h2 := ih _ _ _ m1 m2 hg
        have h3 := restM_le hi hk hm
        have h4 : costM L R ((i, k, t.1, t.2) :: ms') = priceAt L R i k t + costM L R ms' := by
          unfold costM
          rw [List.map_cons, List.sum_cons]
        rw [h4]
        omega

/-- No match costs less than the best one. -/
theorem match_cost {L R : List Sen} {l : List (Int × Int)} {ms : List (Nat × Nat × Nat × Nat)} (h : matchM L.length R.length l = some ms) : restM L R 0 0 ≤ (costM L R ms : Int) :=
  go_cost L R l 0 0 ms (Nat.zero_le _) (Nat.zero_le _) (match_parts h)

def pairsI (l : List (Nat × Nat)) : List (Int × Int) := l.map fun s => ((s.1 : Int), (s.2 : Int))

theorem takeM_of_mem {nl nr i k : Nat} {s : Nat × Nat} (hs : s ∈ movesM nl nr i k) : takeM nl nr i k (s.1 : Int) (s.2 : Int) = some s := by
  unfold takeM
  cases hf : (movesM nl nr i k).find? (isStep (s.1 : Int) (s.2 : Int)) with
  | none =>
    have := List.find?_eq_none.1 hf s hs
    simp [isStep] at this
  | some t =>
    have := List.find?_some hf
    simp only [isStep, decide_eq_true_eq] at this
    have e : t = s := Prod.ext (by omega) (by omega)
    rw [e]

theorem best_go (L R : List Sen) : ∀ (n i k : Nat), (L.length - i) + (R.length - k) ≤ n → i ≤ L.length → k ≤ R.length →
    ∃ ms, goM L.length R.length (pairsI (bestM L R i k)) i k = some (ms, L.length, R.length) ∧ (costM L R ms : Int) = restM L R i k := by
  intro n
  induction n with
  | zero =>
    intro i k hn hi hk
    obtain rfl : i = L.length := by omega
    obtain rfl : k = R.length := by omega
    have : bestM L R L.length R.length = [] := bestM_end (moves_none (by omega))
    rw [this, restM_end]
    exact ⟨[], rfl, rfl⟩
  | succ n ih =>
    intro i k hn hi hk
    by_cases h0 : (L.length - i) + (R.length - k) = 0
    · exact ih i k (by omega) hi hk
    · obtain ⟨s, hs, hf⟩ := fit_exists L R i k hi hk (moves_ne hi hk h0)
      cases hfd : (movesM L.length R.length i k).find? (fitM L R i k) with
      | none => exact absurd hf (List.find?_eq_none.1 hfd s hs)
      | some t =>
        obtain ⟨ht, aa, bs, he, hpre⟩ := List.find?_eq_some_iff_append.1 hfd
        have htm : t ∈ movesM L.length R.length i k := by rw [he]; simp
        obtain ⟨m1, m2, m3, -, -⟩ := mem_moves htm
        have hb := bestM_step he (fun x hx => by simpa using hpre x hx) ht
        obtain ⟨ms, h1, h2⟩ := ih (i + t.1) (k + t.2) (by omega) m1 m2
        unfold fitM at ht
        rw [decide_eq_true_eq] at ht
        refine ⟨(i, k, t.1, t.2) :: ms, ?_, ?_⟩
        · rw [hb]
          show goM L.length R.length (((t.1 : Int), (t.2 : Int)) :: pairsI (bestM L R (i + t.1) (k + t.2))) i k = _
          simp only [goM]
          rw [takeM_of_mem htm]
          simp only
          rw [h1]
          rfl
        · have h4 : costM L R ((i, k, t.1, t.2) :: ms) = priceAt L R i k t + costM L R ms := by
            unfold costM
            rw [List.map_cons, List.sum_cons]
          rw [h4]
          omega

/-- The best match is one, and costs what is said. -/
theorem best_match (L R : List Sen) : ∃ ms, matchM L.length R.length (pairsI (bestM L R 0 0)) = some ms ∧ (costM L R ms : Int) = restM L R 0 0 := by
  obtain ⟨ms, h1, h2⟩ := best_go L R _ 0 0 (Nat.le_refl _) (Nat.zero_le _) (Nat.zero_le _)
  refine ⟨ms, ?_, h2⟩
  unfold matchM
  rw [h1]
  simp

theorem best_length (L R : List Sen) : (bestM L R 0 0).length ≤ L.length + R.length := by
  unfold bestM
  have := bestF_length L R ((L.length - 0) + (R.length - 0)) 0 0
  omega

/-- Whatever a right table says of the whole is at most the best match's cost. -/
theorem table_le {L R : List Sen} {f : Nat → Nat → Int} (h : Right L R f) (h0 : f 0 0 = 0) : f L.length R.length ≤ restM L R 0 0 := by
  have := right_le h _ 0 0 (Nat.le_refl _) (Nat.zero_le _) (Nat.zero_le _)
  omega

end Go.Proofs.Ytohahlnhbppnhaa
