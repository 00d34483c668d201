/- A reporter is relieved: what the search finds then. -/
import Derived.Test.YtgapbaelifcifaaJC
import Derived.Test.YtgapbaelifcifaaHA
namespace Go.Proofs.Ytgapbaelifcifaa
open Go.RowKit

theorem howW_step {rel : Nat} {second due delay : Int} {R : List Nat} {C : List (Int × Int × Int)} {T : List (Int × Int)} : ∀ (rs : List Nat) (k : Nat) (H : List Nat), (howW rel second R due delay C T).path rs k H →
    (∀ j, j < rs.length → (T.getD (k + j) (0, 0)).1 < second → rs.getD j 0 = R.getD (k + j) 0) ∧ ∀ j, j < rs.length → ¬ (T.getD (k + j) (0, 0)).1 < second → rs.getD j 0 ≠ rel := by
  intro rs
  induction rs with
  | nil => intro k H _; exact ⟨fun j hj => by simp at hj, fun j hj => by simp at hj⟩
  | cons r rs ih =>
    intro k H h
    obtain ⟨h1, h2, h3, h4⟩ := h
    obtain ⟨i1, i2⟩ := ih _ _ h4
    have hm : (if (T.getD k (0, 0)).1 < second then decide (r = R.getD k 0) else !decide (r = rel) && (howOf due delay C T).may k r (decide (H.getD r 0 ≤ k))) = true := h3
    constructor
    · intro j hj hl
      cases j with
      | zero =>
        rw [Nat.add_zero] at hl ⊢
        rw [if_pos hl] at hm
        simpa using hm
      | succ j =>
        rw [List.getD_cons_succ]
        have := i1 j (by simpa using hj)
        rw [show k + 1 + j = k + (j + 1) by omega] at this
        exact this hl
    · intro j hj hl
      cases j with
      | zero =>
        rw [Nat.add_zero] at hl
        rw [if_neg hl, Bool.and_eq_true] at hm
        simpa using hm.1
      | succ j =>
        rw [List.getD_cons_succ]
        have := i2 j (by simpa using hj)
        rw [show k + 1 + j = k + (j + 1) by omega] at this
        exact this hl

theorem howW_path {rel : Nat} {second due delay : Int} {R : List Nat} {C : List (Int × Int × Int)} {T : List (Int × Int)} {f t : Int} (hA : Asc f t T) (hR : R.length = T.length) : ∀ (rs : List Nat) (k : Nat) (H : List Nat), (howW rel second R due delay C T).path rs k H →
    (k < T.length → (T.getD k (0, 0)).1 < second → (howOf due delay C T).path (R.drop k) k H) → (howOf due delay C T).path rs k H := by
  intro rs
  induction rs with
  | nil => intro k H _ _; trivial
  | cons r rs ih =>
    intro k H h hp
    obtain ⟨h1, h2, h3, h4⟩ := h
    have hk : k < T.length := h1
    have hm : (if (T.getD k (0, 0)).1 < second then decide (r = R.getD k 0) else !decide (r = rel) && (howOf due delay C T).may k r (decide (H.getD r 0 ≤ k))) = true := h3
    by_cases hl : (T.getD k (0, 0)).1 < second
    · rw [if_pos hl] at hm
      have hr : r = R.getD k 0 := by simpa using hm
      have hpp := hp hk hl
      rw [List.drop_eq_getElem_cons (by omega)] at hpp
      have hg : R.getD k 0 = R[k] := by rw [List.getD_eq_getElem?_getD, List.getElem?_eq_getElem (by omega), Option.getD_some]
      rw [← hg, ← hr] at hpp
      obtain ⟨p1, p2, p3, p4⟩ := hpp
      exact ⟨p1, p2, p3, ih _ _ h4 fun _ _ => p4⟩
    · rw [if_neg hl, Bool.and_eq_true] at hm
      refine ⟨hk, h2, hm.2, ih _ _ h4 fun hk1 hl1 => ?_⟩
      have n1 := hA.next hk1
      have n2 := hA.at hk
      omega

theorem path_proves {len long short due delay : Int} {L : List (Int × Int)} {C : List (Int × Int × Int)} {R : List Nat} (hf : faultM len long short due delay L C = 0) (hl : R.length = (takesOf len long short L).length)
    (h : (howOf due delay C (takesOf len long short L)).path R 0 [0, 0, 0, 0, 0]) : proveM len long short due delay L C (R.map fun r : Nat => (r : Int)) = true := by
  obtain ⟨h1, h2⟩ := fault_ok hf
  obtain ⟨h3, h4⟩ := sitErr_zero h1
  obtain ⟨-, hA, -, -⟩ := takes_all h3
  obtain ⟨o1, -⟩ := offOk_parts h2
  rw [path_iff hA (by omega) o1.2] at h
  rw [prove_ok hf, Bool.and_eq_true, List.all_eq_true]
  have hmap : (R.map fun r : Nat => (r : Int)).map Int.toNat = R := by
    rw [List.map_map]
    conv => rhs; rw [← List.map_id R]
    exact List.map_congr_left fun x _ => by simp
  refine ⟨?_, fun k hk => ?_⟩
  · unfold staffsM
    rw [Bool.and_eq_true, decide_eq_true_eq, List.all_eq_true]
    refine ⟨by rw [List.length_map]; exact hl, fun x hx => ?_⟩
    obtain ⟨r, hrm, rfl⟩ := List.mem_map.1 hx
    have := h.1 r hrm
    simp only [inB, decide_eq_true_eq]
    omega
  · rw [hmap]
    exact h.2 k (by simpa using hk)

/-- The rota after a reporter is relieved. -/
theorem relief_parts {len long short due delay second : Int} {rel : Nat} {L : List (Int × Int)} {C : List (Int × Int × Int)} {R A : List Nat} (hf : faultM len long short due delay L C = 0) (hR : (howOf due delay C (takesOf len long short L)).best R 0 [0, 0, 0, 0, 0])
    (hb : (howW rel second R due delay C (takesOf len long short L)).best A 0 [0, 0, 0, 0, 0]) :
    R.length = (takesOf len long short L).length ∧ A.length = (takesOf len long short L).length ∧ proveM len long short due delay L C (A.map fun r : Nat => (r : Int)) = true ∧
      (∀ j, j < A.length → ((takesOf len long short L).getD j (0, 0)).1 < second → A.getD j 0 = R.getD j 0) ∧ ∀ j, j < A.length → ¬ ((takesOf len long short L).getD j (0, 0)).1 < second → A.getD j 0 ≠ rel := by
  obtain ⟨h1, h2⟩ := fault_ok hf
  obtain ⟨h3, h4⟩ := sitErr_zero h1
  obtain ⟨-, hA, -, -⟩ := takes_all h3
  have hRl : R.length = (takesOf len long short L).length := by
    have := hR.2.1
    rw [Nat.zero_add] at this
    exact this
  have hAl : A.length = (takesOf len long short L).length := by
    have := hb.2.1
    rw [Nat.zero_add] at this
    exact this
  obtain ⟨s1, s2⟩ := howW_step A 0 _ hb.1
  simp only [Nat.zero_add] at s1 s2
  exact ⟨hRl, hAl, path_proves hf hAl (howW_path hA hRl A 0 _ hb.1 fun _ _ => by rw [List.drop_zero]; exact hR.1), s1, s2⟩

/-- A right rota that is handed in is nothing that Relieve refuses. -/
theorem relief_zero {len long short due delay rel second : Int} {L : List (Int × Int)} {C : List (Int × Int × Int)} {Z : List Int} (hf : faultM len long short due delay L C = 0) (hp : proveM len long short due delay L C Z = true) (h1 : 0 ≤ rel ∧ rel < C.length) (h2 : 0 ≤ second ∧ second ≤ len) :
    reliefErr len long short due delay L C Z rel second = 0 := by
  unfold proveM at hp
  rw [decide_eq_true hf, Bool.true_and, Bool.and_eq_true] at hp
  unfold reliefErr
  have hse : serveErr len long short due delay L C = 0 := by rw [serve_fault]; exact hf
  rw [if_neg (by rw [hse]; simp), if_neg (by rw [hp.1]; simp), if_neg (by rw [hp.2]; simp), if_neg]
  simp only [inB, decide_eq_false_iff_not, not_or, Decidable.not_not]
  omega

theorem openM_prefix (s : Sv) (C : List (Int × Int × Int)) (T : List (Int × Int)) (R : List Nat) (rel : Nat) (second : Int) (k : Nat) : ∀ n, openM s C T R rel second k <+: openM s C T R rel second (k + n) := by
  intro n
  induction n with
  | zero => exact List.prefix_refl _
  | succ n ih =>
    rw [← Nat.add_assoc, openM_next]
    exact ih.trans (List.prefix_append _ _)

/-- How many takes of those before k stay open, and which one is the next. -/
theorem openM_at {s : Sv} {C : List (Int × Int × Int)} {T : List (Int × Int)} {R : List Nat} {rel : Nat} {second : Int} {k n : Nat} (hk : k < n) (h : isOpen s C T R rel second k = true) :
    (openM s C T R rel second k).length < (openM s C T R rel second n).length ∧ (openM s C T R rel second n).getD (openM s C T R rel second k).length 0 = k ∧ (openM s C T R rel second (k + 1)).length = (openM s C T R rel second k).length + 1 := by
  have hn := openM_next s C T R rel second k
  rw [h, if_pos rfl] at hn
  obtain ⟨m, hm⟩ : ∃ m, n = k + 1 + m := ⟨n - (k + 1), by omega⟩
  have hp := openM_prefix s C T R rel second (k + 1) m
  rw [← hm, hn] at hp
  obtain ⟨x, hx⟩ := hp
  refine ⟨by rw [← hx]; simp, ?_, by rw [hn]; simp⟩
  rw [← hx, List.append_assoc]
  simp [List.getD_eq_getElem?_getD]

theorem openM_not {s : Sv} {C : List (Int × Int × Int)} {T : List (Int × Int)} {R : List Nat} {rel : Nat} {second : Int} {k : Nat} (h : isOpen s C T R rel second k = false) : openM s C T R rel second (k + 1) = openM s C T R rel second k := by
  rw [openM_next, h]
  simp

theorem openM_mono {s : Sv} {C : List (Int × Int × Int)} {T : List (Int × Int)} {R : List Nat} {rel : Nat} {second : Int} {k n : Nat} (hk : k ≤ n) : (openM s C T R rel second k).length ≤ (openM s C T R rel second n).length := by
  obtain ⟨m, rfl⟩ : ∃ m, n = k + m := ⟨n - k, by omega⟩
  exact (openM_prefix s C T R rel second k m).length_le

/-- One from Relieve, of a right rota and numbers in range. -/
theorem relief_one {len long short due delay second : Int} {rel : Nat} {L : List (Int × Int)} {C : List (Int × Int × Int)} {R : List Nat} {w w' : World} {e : Ending} (h : ReliefPost len long short due delay L C (R.map fun r : Nat => (r : Int)) rel second w e w') (hz : reliefErr len long short due delay L C (R.map fun r : Nat => (r : Int)) rel second = 0) :
    Below w.heap.size w w' ∧ ∃ (a b : Option Addr) (an ac bn bc : Nat) (er : Int) (A O : List Nat), e = .returned (.tuple #[.slice a an ac, .slice b bn bc, .int .i64 er]) ∧ A.length = an ∧ O.length = bn ∧ Ints w' a (A.map fun r : Nat => (r : Int)) ∧ Ints w' b (O.map fun r : Nat => (r : Int)) ∧
      Hid (er = 7 ∨ er = 0 ∧ (howW rel second R due delay C (takesOf len long short L)).best A 0 [0, 0, 0, 0, 0] ∧ ∃ s : Sv, s.delay = delay ∧ O = openM s C (takesOf len long short L) R rel second (takesOf len long short L).length) := by
  have hmap : (R.map fun r : Nat => (r : Int)).map Int.toNat = R := by
    rw [List.map_map]
    conv => rhs; rw [← List.map_id R]
    exact List.map_congr_left fun x _ => by simp
  obtain ⟨hb, ⟨h1, _⟩ | ⟨_, ⟨rfl, _⟩ | ⟨a, b, ac, bn, bc, A, s, hs, rfl, hA, hbest, hl, hO⟩⟩⟩ := h
  · exact absurd hz h1
  · exact ⟨hb, none, none, 0, 0, 0, 0, 7, [], [], rfl, rfl, rfl, fun i hi => by simp at hi, fun i hi => by simp at hi, .inl rfl⟩
  · rw [hmap, Int.toNat_natCast] at hbest hl hO
    exact ⟨hb, a, b, _, ac, bn, bc, 0, A, _, rfl, rfl, hl, hA, hO, .inr ⟨rfl, hbest, s, hs, rfl⟩⟩

end Go.Proofs.Ytgapbaelifcifaa
