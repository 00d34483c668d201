/- Mend, the laws: ref.Decide in numbers: which request is taken next, and what is answered to it. -/
import Derived.Test.YtbampfkmgjfofaaGreatDoorCO
import Derived.Test.YtbampfkmgjfofaaGreatDoorCP
namespace Go.Proofs.YtbampfkmgjfofaaGreatDoor
open Go.RowKit

theorem ordI_length (L : List Req) : (ordI L).length = L.length := by
  have := (ordI_perm L).length_eq
  rwa [List.length_range] at this

theorem ordI_nodup (L : List Req) : (ordI L).Nodup := (ordI_perm L).nodup_iff.2 List.nodup_range

theorem ordI_lt {L : List Req} {t : Nat} (ht : t < L.length) : (ordI L).getD t 0 < L.length := by
  have h : t < (ordI L).length := by rw [ordI_length]; exact ht
  rw [List.getD_eq_getElem?_getD, List.getElem?_eq_getElem h, Option.getD_some]
  exact List.mem_range.1 ((ordI_perm L).mem_iff.1 (List.getElem_mem h))

/-- Is a request taken, when some are? -/
def doneB (L : List Req) (t i : Nat) : Bool := decide (i ∈ (ordI L).take t)

theorem doneB_zero {L : List Req} {i : Nat} : doneB L 0 i = false := by simp [doneB]

theorem drop_split {L : List Req} {t : Nat} (ht : t < L.length) : (ordI L).drop t = (ordI L).getD t 0 :: (ordI L).drop (t + 1) := by
  have h : t < (ordI L).length := by rw [ordI_length]; exact ht
  rw [List.drop_eq_getElem_cons h, List.getD_eq_getElem?_getD, List.getElem?_eq_getElem h, Option.getD_some]

theorem take_split {L : List Req} {t : Nat} (ht : t < L.length) : (ordI L).take (t + 1) = (ordI L).take t ++ [(ordI L).getD t 0] := by
  have h : t < (ordI L).length := by rw [ordI_length]; exact ht
  rw [List.take_add_one, List.getElem?_eq_getElem h, List.getD_eq_getElem?_getD, List.getElem?_eq_getElem h]
  rfl

theorem not_both {L : List Req} {t i : Nat} (h1 : i ∈ (ordI L).take t) (h2 : i ∈ (ordI L).drop t) : False := by
  have h := ordI_nodup L
  rw [← List.take_append_drop t (ordI L), List.nodup_append] at h
  exact h.2.2 i h1 i h2 rfl

theorem in_drop {L : List Req} {t i : Nat} (hi : i < L.length) (h : doneB L t i = false) : i ∈ (ordI L).drop t := by
  have hm : i ∈ ordI L := (ordI_perm L).mem_iff.2 (List.mem_range.2 hi)
  rw [← List.take_append_drop t (ordI L), List.mem_append] at hm
  rcases hm with hm | hm
  · unfold doneB at h
    rw [decide_eq_false_iff_not] at h
    exact absurd hm h
  · exact hm

theorem doneB_next {L : List Req} {t : Nat} (ht : t < L.length) : doneB L t ((ordI L).getD t 0) = false := by
  unfold doneB
  rw [decide_eq_false_iff_not]
  intro h
  exact not_both h (by rw [drop_split ht]; exact List.mem_cons_self)

theorem doneB_step {L : List Req} {t : Nat} (ht : t < L.length) (i : Nat) : doneB L (t + 1) i = if i = (ordI L).getD t 0 then true else doneB L t i := by
  unfold doneB
  rw [take_split ht]
  split
  · rename_i h
    rw [h]
    simp
  · rename_i h
    rw [Bool.eq_iff_iff]
    simp only [decide_eq_true_eq, List.mem_append, List.mem_singleton]
    exact ⟨fun hh => hh.elim id fun e => absurd e h, .inl⟩

/-- The one that is taken next is the one than which none is sooner. -/
theorem pick_first {L : List Req} {t x : Nat} (ht : t < L.length) (hx : x < L.length) (hd : doneB L t x = false) (hmin : ∀ i, i < L.length → doneB L t i = false → soonB L i x = false) : x = (ordI L).getD t 0 := by
  have h1 := in_drop hx hd
  rw [drop_split ht] at h1
  rcases List.mem_cons.1 h1 with h | h
  · exact h
  · have hs : ((ordI L).drop t).Pairwise (fun i k => soonB L k i = false) := (ordI_sorted L).sublist (List.drop_sublist t _)
    rw [drop_split ht, List.pairwise_cons] at hs
    exact soonB_eq (hs.1 x h) (hmin _ (ordI_lt ht) (doneB_next ht))

/-- The one that is chosen, when some of them are looked at. -/
def PickM (L : List Req) (t j : Nat) (x : Int) : Prop :=
  (x = -1 ∧ ∀ i, i < j → doneB L t i = true) ∨ ∃ n : Nat, x = n ∧ n < j ∧ doneB L t n = false ∧ ∀ i, i < j → doneB L t i = false → soonB L i n = false

theorem PickM.zero {L : List Req} {t : Nat} : PickM L t 0 (-1) := .inl ⟨rfl, fun i h => by omega⟩

theorem PickM.past {L : List Req} {t j : Nat} {x : Int} (h : PickM L t j x) (hd : doneB L t j = true) : PickM L t (j + 1) x := by
  rcases h with ⟨h1, h2⟩ | ⟨n, h1, h2, h3, h4⟩
  · refine .inl ⟨h1, fun i hi => ?_⟩
    by_cases e : i = j
    · rw [e]; exact hd
    · exact h2 i (by omega)
  · refine .inr ⟨n, h1, by omega, h3, fun i hi hdi => ?_⟩
    by_cases e : i = j
    · rw [e, hd] at hdi; cases hdi
    · exact h4 i (by omega) hdi

theorem PickM.first {L : List Req} {t j : Nat} {x : Int} (h : PickM L t j x) (hx : x < 0) (hd : doneB L t j = false) : PickM L t (j + 1) j := by
  rcases h with ⟨h1, h2⟩ | ⟨n, h1, h2, h3, h4⟩
  · refine .inr ⟨j, rfl, by omega, hd, fun i hi hdi => ?_⟩
    by_cases e : i = j
    · rw [e]; exact (soonB_swo L).irrefl j
    · rw [h2 i (by omega)] at hdi; cases hdi
  · omega

theorem PickM.stays {L : List Req} {t j n : Nat} (h : PickM L t j (n : Int)) (hs : soonB L j n = false) : PickM L t (j + 1) (n : Int) := by
  rcases h with ⟨h1, h2⟩ | ⟨n', h1, h2, h3, h4⟩
  · omega
  · obtain rfl : n = n' := by omega
    refine .inr ⟨n, rfl, by omega, h3, fun i hi hdi => ?_⟩
    by_cases e : i = j
    · rw [e]; exact hs
    · exact h4 i (by omega) hdi

theorem PickM.turns {L : List Req} {t j n : Nat} (h : PickM L t j (n : Int)) (hd : doneB L t j = false) (hs : soonB L j n = true) : PickM L t (j + 1) (j : Int) := by
  rcases h with ⟨h1, h2⟩ | ⟨n', h1, h2, h3, h4⟩
  · omega
  · obtain rfl : n = n' := by omega
    refine .inr ⟨j, rfl, by omega, hd, fun i hi hdi => ?_⟩
    by_cases e : i = j
    · rw [e]; exact (soonB_swo L).irrefl j
    · cases hc : soonB L i j
      · rfl
      · have := (soonB_swo L).trans _ _ _ hc hs
        rw [h4 i (by omega) hdi] at this
        cases this

theorem PickM.done {L : List Req} {t : Nat} {x : Int} (ht : t < L.length) (h : PickM L t L.length x) : x = ((ordI L).getD t 0 : Nat) := by
  rcases h with ⟨h1, h2⟩ | ⟨n, h1, h2, h3, h4⟩
  · have := h2 _ (ordI_lt ht)
    rw [doneB_next ht] at this
    cases this
  · rw [h1, pick_first ht h2 h3 h4]

/-! ### What is answered to it -/
theorem meetA_comm (x y : Ask) : meetA x y = meetA y x := by
  unfold meetA
  rw [Bool.eq_iff_iff]
  simp only [Bool.or_eq_true, Bool.and_eq_true, decide_eq_true_eq]
  omega

theorem verdict_nil {al : Ask → Int} {x : Ask} : verdictA al [] x = al x := by
  unfold verdictA
  split
  · rename_i h; rw [h]; rfl
  · rfl

theorem verdict_hit {al : Ask → Int} {V : List Ask} {x y : Ask} (h : verdictA al V x = 0) (hm : meetA y x = true) : verdictA al (V ++ [y]) x = 6 := by
  have h0 := verdict_zero h
  unfold verdictA
  rw [if_pos h0, if_pos (by rw [List.any_append, Bool.or_eq_true]; exact .inr (by simp [hm]))]

theorem verdict_past {al : Ask → Int} {V : List Ask} {x y : Ask} (h : verdictA al V x = 0) (hm : meetA y x = false) : verdictA al (V ++ [y]) x = 0 := by
  have h0 := verdict_zero h
  unfold verdictA at h ⊢
  rw [if_pos h0] at h ⊢
  rw [List.any_append]
  split
  · rename_i ha
    rw [Bool.or_eq_true] at ha
    rcases ha with ha | ha
    · rw [if_pos ha] at h; exact h
    · simp [hm] at ha
  · rfl

theorem verdict_stays {al : Ask → Int} {V : List Ask} {x y : Ask} (h : verdictA al V x ≠ 0) : verdictA al (V ++ [y]) x = verdictA al V x := by
  unfold verdictA at h ⊢
  by_cases h0 : al x = 0
  · rw [if_pos h0] at h ⊢
    rw [if_pos h0]
    by_cases ha : V.any (fun y => meetA y x) = true
    · rw [if_pos ha, if_pos (by rw [List.any_append, ha]; rfl)]
    · rw [if_neg ha] at h; exact absurd rfl h
  · rw [if_neg h0, if_neg h0]

theorem step_fst {al : Ask → Int} {st : (Nat → Int) × List Ask} {x : Ask} (h : st.1 x.i = 0) : (stepA al st x).1 = fun j => if j = x.i then verdictA al st.2 x else st.1 j := by
  unfold stepA
  split
  · rename_i hv
    funext j
    by_cases e : j = x.i
    · rw [if_pos e, hv, e]; exact h
    · rw [if_neg e]
  · rfl

theorem step_snd {al : Ask → Int} {st : (Nat → Int) × List Ask} {x : Ask} : (stepA al st x).2 = if verdictA al st.2 x = 0 then st.2 ++ [x] else st.2 := by
  unfold stepA
  split <;> rfl

/-- What is answered, and who is accepted, when some are taken. -/
def stQ (al : Ask → Int) (L : List Req) (t : Nat) : (Nat → Int) × List Ask := runA al ((askedI L).take t)

theorem askedI_length (L : List Req) : (askedI L).length = L.length := by unfold askedI; rw [List.length_map, ordI_length]

theorem asked_at {L : List Req} {t : Nat} (ht : t < L.length) : (askedI L).getD t default = askI L ((ordI L).getD t 0) := by
  have h : t < (ordI L).length := by rw [ordI_length]; exact ht
  unfold askedI
  rw [List.getD_eq_getElem?_getD, List.getElem?_map, List.getElem?_eq_getElem h, List.getD_eq_getElem?_getD, List.getElem?_eq_getElem h]
  rfl

theorem stQ_zero {al : Ask → Int} {L : List Req} : stQ al L 0 = (fun _ => 0, []) := rfl

theorem stQ_step {al : Ask → Int} {L : List Req} {t : Nat} (ht : t < L.length) : stQ al L (t + 1) = stepA al (stQ al L t) (askI L ((ordI L).getD t 0)) := by
  unfold stQ
  rw [runA_take (by rw [askedI_length]; exact ht), asked_at ht]

theorem stQ_all {al : Ask → Int} {L : List Req} : stQ al L L.length = runA al (askedI L) := by
  unfold stQ
  rw [List.take_of_length_le (by rw [askedI_length]; omega)]

theorem stQ_ok {al : Ask → Int} {L : List Req} {t : Nat} : RunOk al ((askedI L).take t) (stQ al L t) := by
  refine runA_ok ?_
  have e : (askedI L).map (·.i) = ordI L := by
    unfold askedI
    rw [List.map_map]
    exact List.map_id _
  rw [List.map_take, e]
  exact (ordI_nodup L).sublist (List.take_sublist t _)

theorem stQ_rest {al : Ask → Int} {L : List Req} {t : Nat} (ht : t < L.length) : (stQ al L t).1 ((ordI L).getD t 0) = 0 := by
  refine stQ_ok.rest _ ?_
  have e : (askedI L).map (·.i) = ordI L := by
    unfold askedI
    rw [List.map_map]
    exact List.map_id _
  rw [List.map_take, e]
  intro h
  have := doneB_next ht
  unfold doneB at this
  rw [decide_eq_false_iff_not] at this
  exact this h

/-- What is known of those that are accepted. -/
theorem stQ_acc {E : List Ent} {S : List (Int × Int × Int)} {R : List (Tx × Int)} {out win : Int} {L : List Req} {t : Nat} : ∀ y ∈ (stQ (aloneM E S R out win L) L t).2, y = askI L y.i ∧ y.i < L.length ∧ OwnOk R out win (L.getD y.i default) := by
  intro y hy
  obtain ⟨h1, h2⟩ := stQ_ok.acc y hy
  have hm := List.mem_of_mem_take h1
  unfold askedI at hm
  obtain ⟨i, hi, rfl⟩ := List.mem_map.1 hm
  have ha := fold_zero _ _ h2 _ h1 rfl
  exact ⟨rfl, List.mem_range.1 ((ordI_perm L).mem_iff.1 hi), alone_own ha rfl rfl rfl rfl⟩

end Go.Proofs.YtbampfkmgjfofaaGreatDoor
