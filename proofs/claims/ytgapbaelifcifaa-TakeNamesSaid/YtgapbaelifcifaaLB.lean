/- What the reference's Rota finds after a reporter is relieved, against the program's search. -/
import Derived.Test.YtgapbaelifcifaaLA
namespace Go.Proofs.Ytgapbaelifcifaa
open Go.RowKit

theorem howW_of {rel : Nat} {second due delay : Int} {R : List Nat} {C : List (Int × Int × Int)} {T : List (Int × Int)} : ∀ (rs : List Nat) (k : Nat) (H : List Nat), (howOf due delay C T).path rs k H →
    (∀ j, j < rs.length → (T.getD (k + j) (0, 0)).1 < second → rs.getD j 0 = R.getD (k + j) 0) → (∀ j, j < rs.length → ¬ (T.getD (k + j) (0, 0)).1 < second → rs.getD j 0 ≠ rel) → (howW rel second R due delay C T).path rs k H := by
  intro rs
  induction rs with
  | nil => intro k H _ _ _; trivial
  | cons r rs ih =>
    intro k H h h1 h2
    obtain ⟨p1, p2, p3, p4⟩ := h
    refine ⟨p1, p2, ?_, ih _ _ p4 (fun j hj hl => ?_) (fun j hj hl => ?_)⟩
    · show (if (T.getD k (0, 0)).1 < second then decide (r = R.getD k 0) else !decide (r = rel) && (howOf due delay C T).may k r (decide (H.getD r 0 ≤ k))) = true
      have a1 := h1 0 (by simp)
      have a2 := h2 0 (by simp)
      rw [Nat.add_zero, List.getD_cons_zero] at a1 a2
      split
      · next hl => simpa using a1 hl
      · next hl => rw [Bool.and_eq_true]; exact ⟨by simpa using a2 hl, p3⟩
    · have := h1 (j + 1) (by simpa using hj)
      rw [List.getD_cons_succ, show k + (j + 1) = k + 1 + j by omega] at this
      exact this hl
    · have := h2 (j + 1) (by simpa using hj)
      rw [List.getD_cons_succ, show k + (j + 1) = k + 1 + j by omega] at this
      exact this hl

theorem lexLe_append {rs qs : List Nat} (h : lexLe rs qs) : ∀ B : List Nat, lexLe (B ++ rs) (B ++ qs) := by
  intro B
  induction B with
  | nil => exact h
  | cons b B ih => exact Or.inr ⟨rfl, ih⟩

theorem nat_take {R : List Nat} {nb j : Nat} (h : j < nb) : (R.take nb).getD j 0 = R.getD j 0 := by
  simp [List.getD_eq_getElem?_getD, List.getElem?_take, h]

theorem getD_right {B rs : List Nat} {j : Nat} (h : B.length ≤ j) : (B ++ rs).getD j 0 = rs.getD (j - B.length) 0 := by
  rw [List.getD_eq_getElem?_getD, List.getElem?_append_right h, ← List.getD_eq_getElem?_getD]

theorem nat_mem {rs : List Nat} {j : Nat} (h : j < rs.length) : rs.getD j 0 ∈ rs := by
  rw [List.getD_eq_getElem?_getD, List.getElem?_eq_getElem h, Option.getD_some]
  exact List.getElem_mem h

variable {rel nb : Nat} {second due delay f t : Int} {R : List Nat} {C : List (Int × Int × Int)} {T : List (Int × Int)}

theorem before_split (hA : Asc f t T) (hb : IsBefore T second nb) {k : Nat} (hk : k < T.length) : (T.getD k (0, 0)).1 < second ↔ k < nb := by
  constructor
  · intro h
    by_cases e : k < nb
    · exact e
    · have h1 := hb.2.2 (by omega)
      have h2 := asc_starts hA nb k (by omega) hk
      omega
  · exact hb.2.1 k

theorem relief_fits (hA : Asc f t T) (h5 : C.length ≤ 5) (hb : IsBefore T second nb) (hR : R.length = T.length) (hp : (howOf due delay C T).path R 0 [0, 0, 0, 0, 0]) {X : List Nat} (hX : X.length = T.length) :
    (howW rel second R due delay C T).path X 0 [0, 0, 0, 0, 0] ↔ ∃ rs, X = R.take nb ++ rs ∧ rs.length = T.length - nb ∧ Fits (okM (rel : Int) due delay C T) C.length (R.take nb) rs := by
  have hbn := hb.1
  have hBl : (R.take nb).length = nb := by rw [List.length_take]; omega
  have hRp := hp
  rw [path_iff hA (by omega) h5] at hp
  constructor
  · intro h
    obtain ⟨s1, s2⟩ := howW_step X 0 _ h
    simp only [Nat.zero_add] at s1 s2
    have hq := howW_path hA hR X 0 _ h fun _ _ => by rw [List.drop_zero]; exact hRp
    rw [path_iff hA (by omega) h5] at hq
    have hXe : X = R.take nb ++ X.drop nb := by
      have : X.take nb = R.take nb := by
        refine eq_of_getD (d := 0) (by rw [List.length_take, List.length_take]; omega) fun j hj => ?_
        rw [List.length_take] at hj
        rw [nat_take (by omega), nat_take (by omega)]
        exact s1 j (by omega) ((before_split hA hb (by omega)).2 (by omega))
      rw [← this, List.take_append_drop]
    refine ⟨X.drop nb, hXe, by rw [List.length_drop]; omega, ?_⟩
    rw [fits_iff]
    refine ⟨fun r hr => ⟨hq.1 r (List.mem_of_mem_drop hr), ?_⟩, fun k k1 k2 => ?_⟩
    · obtain ⟨i, hi, rfl⟩ := List.mem_iff_getElem.1 hr
      rw [List.length_drop] at hi
      have h3 := s2 (nb + i) (by omega) (fun hl => by have := (before_split hA hb (by omega)).1 hl; omega)
      have h4 : (X.drop nb)[i]'(by rw [List.length_drop]; exact hi) = X.getD (nb + i) 0 := by
        rw [List.getD_eq_getElem?_getD, List.getElem?_eq_getElem (by omega), Option.getD_some, List.getElem_drop]
      rw [h4]
      omega
    · rw [← hXe]
      rw [hBl, List.length_drop] at k2
      exact hq.2 k (by omega)
  · rintro ⟨rs, rfl, hl, hf⟩
    rw [fits_iff] at hf
    obtain ⟨f1, f2⟩ := hf
    have hgl : ∀ j, j < nb → (R.take nb ++ rs).getD j 0 = R.getD j 0 := fun j hj => by rw [getD_app (by omega), nat_take hj]
    have hq : (howOf due delay C T).path (R.take nb ++ rs) 0 [0, 0, 0, 0, 0] := by
      rw [path_iff hA (by omega) h5]
      refine ⟨fun r hr => ?_, fun k hk => ?_⟩
      · rcases List.mem_append.1 hr with h | h
        · exact hp.1 r (List.mem_of_mem_take h)
        · exact (f1 r h).1
      · by_cases hkn : k < nb
        · rw [rota_prefix (R' := R) fun j hj => hgl j (by omega)]
          exact hp.2 k (by omega)
        · rw [List.length_append, hBl] at hk
          exact f2 k (by omega) (by rw [hBl]; omega)
    refine howW_of _ 0 _ hq (fun j hj hl2 => ?_) (fun j hj hl2 => ?_)
    · rw [Nat.zero_add] at hl2 ⊢
      rw [List.length_append, hBl] at hj
      exact hgl j ((before_split hA hb (by omega)).1 hl2)
    · rw [Nat.zero_add] at hl2
      rw [List.length_append, hBl] at hj
      have hjn : ¬ j < nb := fun h => hl2 ((before_split hA hb (by omega)).2 h)
      rw [getD_right (by omega), hBl]
      have := (f1 _ (nat_mem (j := j - nb) (by omega))).2
      omega

theorem relief_some (hA : Asc f t T) (h5 : C.length ≤ 5) (hb : IsBefore T second nb) (hR : R.length = T.length) (hp : (howOf due delay C T).path R 0 [0, 0, 0, 0, 0]) {X : List Nat} (hd : dfs (okM (rel : Int) due delay C T) C.length (T.length - nb) (R.take nb) = some X) :
    (∀ A, (howW rel second R due delay C T).best A 0 [0, 0, 0, 0, 0] → A = X) ∧ ∀ rc, (howW rel second R due delay C T).dead rc 0 [0, 0, 0, 0, 0] → False := by
  have hbn := hb.1
  have hBl : (R.take nb).length = nb := by rw [List.length_take]; omega
  obtain ⟨rs, rfl, h1, h2, h3⟩ := (dfs_spec _ _ _ _).1 X hd
  have hXl : (R.take nb ++ rs).length = T.length := by rw [List.length_append, hBl, h1]; omega
  have hXp := (relief_fits (rel := rel) hA h5 hb hR hp hXl).2 ⟨rs, rfl, h1, h2⟩
  have htn : (howW rel second R due delay C T).tn = T.length := rfl
  refine ⟨fun A hbA => ?_, fun rc hdd => ?_⟩
  · have hAl : A.length = T.length := by
      have := hbA.2.1
      omega
    obtain ⟨qs, rfl, q1, q2⟩ := (relief_fits (rel := rel) hA h5 hb hR hp hAl).1 hbA.1
    exact lexLe_antisymm _ _ (by omega) (hbA.2.2 _ hXp (by omega)) (lexLe_append (h3 qs q1 q2) _)
  · have := (hdd _ hXp).1
    omega

theorem relief_none (hA : Asc f t T) (h5 : C.length ≤ 5) (hb : IsBefore T second nb) (hR : R.length = T.length) (hp : (howOf due delay C T).path R 0 [0, 0, 0, 0, 0]) (hd : dfs (okM (rel : Int) due delay C T) C.length (T.length - nb) (R.take nb) = none) {A : List Nat} (hbA : (howW rel second R due delay C T).best A 0 [0, 0, 0, 0, 0]) : False := by
  have htn : (howW rel second R due delay C T).tn = T.length := rfl
  have hAl : A.length = T.length := by
    have := hbA.2.1
    omega
  obtain ⟨qs, -, q1, q2⟩ := (relief_fits (rel := rel) hA h5 hb hR hp hAl).1 hbA.1
  exact (dfs_spec _ _ _ _).2 hd qs q1 q2

theorem open_before (hA : Asc f t T) (hb : IsBefore T second nb) (s : Sv) : openM s C T R rel second T.length = openM s C T R rel second nb := by
  have h : ∀ m, nb + m ≤ T.length → openM s C T R rel second (nb + m) = openM s C T R rel second nb := by
    intro m
    induction m with
    | zero => intro _; rfl
    | succ m ih =>
      intro hm
      rw [← Nat.add_assoc, openM_not, ih (by omega)]
      unfold isOpen
      have : ¬ (T.getD (nb + m) (0, 0)).1 < second := fun hl => by have := (before_split hA hb (by omega)).1 hl; omega
      rw [decide_eq_false this, Bool.false_and, Bool.and_false]
  have hbn := hb.1
  have := h (T.length - nb) (by omega)
  rwa [show nb + (T.length - nb) = T.length by omega] at this

end Go.Proofs.Ytgapbaelifcifaa
