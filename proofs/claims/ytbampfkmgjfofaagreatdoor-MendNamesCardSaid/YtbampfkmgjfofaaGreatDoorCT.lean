/- Mend, the laws: MendJoined in numbers: the sense of texts joined, and of those that say nothing. -/
import Derived.Test.YtbampfkmgjfofaaGreatDoorBT
import Derived.Test.YtbampfkmgjfofaaGreatDoorBI
import Derived.Test.YtbampfkmgjfofaaGreatDoorCA
namespace Go.Proofs.YtbampfkmgjfofaaGreatDoor
open Go.RowKit

theorem senseM_append {E : List Ent} {A B : List Tx} : senseM E (A ++ B) = senseM E A ++ senseM E B := List.filterMap_append

/-- The texts that say nothing. -/
def muteM (E : List Ent) (L : List Tx) : List Tx := L.filter fun t => decide ((senseM E [t]).length = 0)

theorem mute_sense {E : List Ent} {L : List Tx} : senseM E (muteM E L) = [] := by
  unfold senseM muteM
  rw [List.filterMap_eq_nil_iff]
  intro t ht
  have h := (List.mem_filter.1 ht).2
  rw [decide_eq_true_eq] at h
  have h2 := List.eq_nil_of_length_eq_zero h
  unfold senseM at h2
  rw [List.filterMap_eq_nil_iff] at h2
  exact h2 t (List.mem_singleton.2 rfl)

theorem mute_next {E : List Ent} {L : List Tx} {j : Nat} (hj : j < L.length) : muteM E (L.take (j + 1)) = if (senseM E [L.getD j .empty]).length = 0 then muteM E (L.take j) ++ [L.getD j .empty] else muteM E (L.take j) := by
  have e : L.take (j + 1) = L.take j ++ [L.getD j .empty] := by
    rw [List.take_add_one, List.getElem?_eq_getElem hj, List.getD_eq_getElem?_getD, List.getElem?_eq_getElem hj]
    rfl
  rw [e]
  generalize L.getD j .empty = t
  unfold muteM
  rw [List.filter_append]
  split
  · rename_i h
    rw [List.filter_cons_of_pos (by simpa using h), List.filter_nil]
  · rename_i h
    rw [List.filter_cons_of_neg (by simpa using h), List.filter_nil, List.append_nil]

theorem listed_ok {L : List Tx} (h : listedM L = 0) : L.length ≤ 80 ∧ L.all textOk = true := by
  unfold listedM at h
  split at h
  · cases h
  · split at h
    · exact ⟨by omega, by assumption⟩
    · cases h

theorem sense_fine {l : Lex} {L : List Tx} (h1 : lexErr l = 0) (h2 : L.length ≤ 80) (h3 : L.all textOk = true) : senseErr l L = 0 := by
  unfold senseErr textsErr
  rw [if_pos h1]
  simp [h2, h3]

theorem sense_two {l : Lex} {A B : List Tx} (h1 : lexErr l = 0) (a1 : A.length ≤ 40) (a2 : A.all textOk = true) (b1 : B.length ≤ 40) (b2 : B.all textOk = true) : senseErr l (A ++ B) = 0 :=
  sense_fine h1 (by rw [List.length_append]; omega) (by rw [List.all_append, a2, b2]; rfl)

theorem sense_one {l : Lex} {A : List Tx} {t : Tx} (h1 : lexErr l = 0) (a2 : A.all textOk = true) (ht : t ∈ A) : senseErr l [t] = 0 :=
  sense_fine h1 (by simp) (by simpa using (List.all_eq_true.1 a2) t ht)

theorem mute_all {E : List Ent} {A : List Tx} (h : A.all textOk = true) : (muteM E A).all textOk = true := by
  rw [List.all_eq_true] at h ⊢
  exact fun t ht => h t (List.mem_filter.1 ht).1

theorem mute_length {E : List Ent} {A : List Tx} : (muteM E A).length ≤ A.length := List.length_filter_le _ _

/-- Texts that say nothing are no trouble to each other. -/
theorem mute_trouble {l : Lex} {A B : List Tx} (h1 : lexErr l = 0) (a1 : A.length ≤ 40) (a2 : A.all textOk = true) (b1 : B.length ≤ 40) (b2 : B.all textOk = true) :
    troubleErr l [] (muteM (entries l) A) (muteM (entries l) B) = 0 ∧ troubleF l [] (muteM (entries l) A) (muteM (entries l) B) = 0 := by
  have h0 : troubleErr l [] (muteM (entries l) A) (muteM (entries l) B) = 0 := by
    have hr : readErr l [] = 0 := by
      unfold readErr
      simp [h1, swapsErr]
    unfold troubleErr textsErr
    rw [if_pos hr]
    have e1 := mute_length (E := entries l) (A := A)
    have e2 := mute_length (E := entries l) (A := B)
    have e3 : (muteM (entries l) A).length ≤ 80 := by omega
    have e4 : (muteM (entries l) B).length ≤ 80 := by omega
    simp only [List.all_cons, List.all_nil, e3, e4, mute_all a2, mute_all b2]
    rfl
  refine ⟨h0, ?_⟩
  unfold troubleF
  rw [if_pos h0, mute_sense, mute_sense]
  simp [troubleM, tabM]

end Go.Proofs.YtbampfkmgjfofaaGreatDoor
