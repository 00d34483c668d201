/- The takes of a sitting, in numbers: where they lie, and how long they are. -/
import Derived.Test.YtgapbaelifcifaaCA
namespace Go.Proofs.Ytgapbaelifcifaa

theorem strs_mem {len : Int} : ∀ (L : List (Int × Int)) (f : Int), ∀ x ∈ strs len f L, x.1 < x.2 ∧ (x.1 = f ∨ ∃ p ∈ L, x.1 = p.2) ∧ (x.2 = len ∨ ∃ p ∈ L, x.2 = p.1) := by
  intro L
  induction L with
  | nil =>
    intro f x hx
    rw [strs] at hx
    split at hx
    · simp only [List.mem_singleton] at hx
      subst hx
      exact ⟨by assumption, .inl rfl, .inl rfl⟩
    · simp at hx
  | cons p ps ih =>
    intro f x hx
    rw [strs] at hx
    have hrest : x ∈ strs len p.2 ps → x.1 < x.2 ∧ (x.1 = f ∨ ∃ q ∈ p :: ps, x.1 = q.2) ∧ (x.2 = len ∨ ∃ q ∈ p :: ps, x.2 = q.1) := by
      intro h
      obtain ⟨h1, h2, h3⟩ := ih p.2 x h
      refine ⟨h1, .inr ?_, ?_⟩
      · rcases h2 with h2 | ⟨q, hq, h2⟩
        · exact ⟨p, List.mem_cons_self, h2⟩
        · exact ⟨q, List.mem_cons_of_mem _ hq, h2⟩
      · rcases h3 with h3 | ⟨q, hq, h3⟩
        · exact .inl h3
        · exact .inr ⟨q, List.mem_cons_of_mem _ hq, h3⟩
    split at hx
    · rcases List.mem_cons.1 hx with rfl | hx
      · exact ⟨by assumption, .inl rfl, .inr ⟨p, List.mem_cons_self, rfl⟩⟩
      · exact hrest hx
    · exact hrest hx

theorem cutS_mem {long short : Int} (hs : 1 ≤ short) (hl : short ≤ long) : ∀ (k : Nat) (f t : Int), ∀ x ∈ cutS long short k f t, f ≤ x.1 ∧ x.1 < x.2 ∧ x.2 ≤ t ∧ x.2 - x.1 < long + short ∧ (x.2 - x.1 < short → x.1 = f ∧ x.2 = t) := by
  intro k
  induction k with
  | zero => intro f t x hx; simp [cutS] at hx
  | succ k ih =>
    intro f t x hx
    rw [cutS] at hx
    split at hx
    · next hf =>
      by_cases hc : t - (f + long) < short
      · simp only [if_pos hc] at hx
        rcases List.mem_cons.1 hx with rfl | hx
        · exact ⟨by simp, by simpa using hf, by simp, by simp only; omega, fun _ => ⟨rfl, rfl⟩⟩
        · rw [cutS_done _ (by omega)] at hx
          simp at hx
      · simp only [if_neg hc] at hx
        rcases List.mem_cons.1 hx with rfl | hx
        · exact ⟨by simp, by simp only; omega, by simp only; omega, by simp only; omega, fun h => by simp only at h; omega⟩
        · obtain ⟨h1, h2, h3, h4, h5⟩ := ih (f + long) t x hx
          exact ⟨by omega, h2, h3, h4, fun h => by have := h5 h; omega⟩
    · simp at hx

theorem pausesOk_mem {len : Int} {L : List (Int × Int)} (h : pausesOk len L = true) : ∀ p ∈ L, 0 ≤ p.1 ∧ p.1 < p.2 ∧ p.2 ≤ len := by
  intro p hp
  obtain ⟨i, hi, rfl⟩ := List.mem_iff_getElem.1 hp
  unfold pausesOk at h
  rw [List.all_eq_true] at h
  have := h i (by simpa using hi)
  cases i with
  | zero => simpa [pauseOk, okSpan, List.getElem?_eq_getElem hi] using this
  | succ i =>
    simp only [pauseOk, okSpan, Bool.and_eq_true, decide_eq_true_eq, List.getD_eq_getElem?_getD, List.getElem?_eq_getElem hi, Option.getD_some] at this
    exact this.2

theorem sitOk_parts {len long short : Int} {L : List (Int × Int)} (h : sitOk len long short L = true) : (1 ≤ len ∧ len ≤ 36000) ∧ (1 ≤ long ∧ long ≤ 1200) ∧ (1 ≤ short ∧ short ≤ long) ∧ pausesOk len L = true := by
  simpa [sitOk, inB] using h

/-- Each take lies in the sitting; it is not too long; if it is short, it is a whole stretch. -/
theorem takesOf_mem {len long short : Int} {L : List (Int × Int)} (h : sitOk len long short L = true) : ∀ x ∈ takesOf len long short L,
    (0 ≤ x.1 ∧ x.1 < x.2 ∧ x.2 ≤ len) ∧ x.2 - x.1 < long + short ∧ (x.2 - x.1 < short → (x.1 = 0 ∨ ∃ p ∈ L, x.1 = p.2) ∧ (x.2 = len ∨ ∃ p ∈ L, x.2 = p.1)) := by
  intro x hx
  obtain ⟨h1, h2, h3, h4⟩ := sitOk_parts h
  unfold takesOf at hx
  obtain ⟨y, hy, hx⟩ := List.mem_flatMap.1 hx
  obtain ⟨b1, b2⟩ := strs_bd L 0 (by omega) (pausesOk_bd h4) y hy
  obtain ⟨c1, c2, c3⟩ := strs_mem L 0 y hy
  obtain ⟨d1, d2, d3, d4, d5⟩ := cutS_mem h3.1 h3.2 _ _ _ x hx
  refine ⟨⟨by omega, d2, by omega⟩, d4, fun hs => ?_⟩
  obtain ⟨e1, e2⟩ := d5 hs
  rw [e1, e2]
  exact ⟨c2, c3⟩

theorem takesOf_bd {len long short : Int} {L : List (Int × Int)} (h : sitOk len long short L = true) {k : Nat} (hk : k < (takesOf len long short L).length) :
    0 ≤ ((takesOf len long short L).getD k (0, 0)).1 ∧ ((takesOf len long short L).getD k (0, 0)).1 < ((takesOf len long short L).getD k (0, 0)).2 ∧ ((takesOf len long short L).getD k (0, 0)).2 ≤ 36000 := by
  have hm : (takesOf len long short L).getD k (0, 0) ∈ takesOf len long short L := by
    rw [List.getD_eq_getElem?_getD, List.getElem?_eq_getElem hk, Option.getD_some]
    exact List.getElem_mem hk
  have := (takesOf_mem h _ hm).1
  have := (sitOk_parts h).1
  omega

end Go.Proofs.Ytgapbaelifcifaa
