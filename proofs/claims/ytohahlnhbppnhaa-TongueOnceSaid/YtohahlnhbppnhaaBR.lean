/- Tongue: the report that counts, piece by piece; with all leads true. -/
import Derived.Test.YtohahlnhbppnhaaBN
namespace Go.Proofs.Ytohahlnhbppnhaa
open Go.RowKit
set_option linter.unusedSimpArgs false
set_option linter.unusedVariables false

theorem pieceM_pos (lead : List Bool) (m : Nat × Nat × Nat × Nat) (h : 1 ≤ m.2.2.1 + m.2.2.2) : 0 < (pieceM lead m).length := by
  unfold pieceM leftsM
  by_cases h0 : 0 < m.2.2.1
  · by_cases h1 : m.2.2.2 = 0
    · simp [h0, h1, partC_length]
    · cases lead.getD m.1 false <;> simp [h0, h1, partC_length] <;> omega
  · simp [h0, partC_length]; omega

theorem partC_get (sd : Int) (i n t : Nat) (ht : t < n) : (partC sd i n).getD t (0, 0) = (sd, ((i + t : Nat) : Int)) := by
  unfold partC
  rw [List.getD_eq_getElem?_getD, List.getElem?_map, List.getElem?_range ht]
  rfl

theorem flat_get (L : List (List (Int × Int))) : ∀ (j t : Nat) (hj : j < L.length), t < (L.getD j []).length → (L.flatten).getD ((L.take j).flatten.length + t) (0, 0) = (L.getD j []).getD t (0, 0) ∧ (L.take j).flatten.length + (L.getD j []).length ≤ L.flatten.length := by
  induction L with
  | nil => intro j t hj; simp at hj
  | cons x L ih =>
    intro j t hj ht
    cases j with
    | zero =>
      simp only [List.take_zero, List.flatten_nil, List.length_nil, Nat.zero_add, List.getD_cons_zero, List.flatten_cons, List.length_append] at ht ⊢
      refine ⟨?_, by omega⟩
      rw [List.getD_eq_getElem?_getD, List.getD_eq_getElem?_getD, List.getElem?_append_left ht]
    | succ j =>
      simp only [List.getD_cons_succ] at ht ⊢
      obtain ⟨h1, h2⟩ := ih j t (by simpa using hj) ht
      simp only [List.take_succ_cons, List.flatten_cons, List.length_append]
      refine ⟨?_, by omega⟩
      rw [← h1, List.getD_eq_getElem?_getD, List.getD_eq_getElem?_getD, List.getElem?_append_right (by omega)]
      congr 2
      omega

theorem count_at (lead : List Bool) (ms : List (Nat × Nat × Nat × Nat)) (j : Nat) (hj : j < ms.length) (t : Nat) (ht : t < (pieceM lead (ms.getD j default)).length) :
    (countM lead ms ms.length).getD ((countM lead ms j).length + t) (0, 0) = (pieceM lead (ms.getD j default)).getD t (0, 0) ∧ (countM lead ms j).length + (pieceM lead (ms.getD j default)).length ≤ (countM lead ms ms.length).length := by
  have e : (ms.map (pieceM lead)).getD j [] = pieceM lead (ms.getD j default) := by
    rw [List.getD_eq_getElem?_getD, List.getElem?_map, List.getD_eq_getElem?_getD, List.getElem?_eq_getElem hj]
    rfl
  have h := flat_get (ms.map (pieceM lead)) j t (by simpa using hj) (by rw [e]; exact ht)
  rw [e] at h
  unfold countM
  rw [List.map_take, List.map_take, List.take_of_length_le (i := ms.length) (by simp)]
  exact h

/-- Whether the left sentences stand in their order, from so many on; and how many there are then. -/
def leftsIn : Nat → List (Int × Int) → Option Nat
  | q, [] => some q
  | q, x :: l => if x.1 = 0 then (if x.2 = (q : Int) then leftsIn (q + 1) l else none) else leftsIn q l

theorem leftsIn_append (a b : List (Int × Int)) : ∀ q, leftsIn q (a ++ b) = (leftsIn q a).bind fun r => leftsIn r b := by
  induction a with
  | nil => intro q; rfl
  | cons x a ih =>
    intro q
    simp only [List.cons_append, leftsIn]
    split
    · split
      · exact ih _
      · rfl
    · exact ih _

theorem leftsIn_left (n : Nat) : ∀ q, leftsIn q (partC 0 q n) = some (q + n) := by
  induction n with
  | zero => intro q; rfl
  | succ n ih =>
    intro q
    rw [partC_succ, leftsIn_append, ih]
    simp [leftsIn, Nat.add_assoc]

theorem leftsIn_right (i n : Nat) : ∀ q, leftsIn q (partC 1 i n) = some q := by
  induction n with
  | zero => intro q; rfl
  | succ n ih =>
    intro q
    rw [partC_succ, leftsIn_append, ih]
    simp [leftsIn]

theorem leftsIn_go (nl nr : Nat) (all : List Bool) (hall : ∀ i, i < nl → all.getD i false = true) (l : List (Int × Int)) : ∀ (i k : Nat) (ms : List (Nat × Nat × Nat × Nat)) (a c : Nat), i ≤ nl → k ≤ nr → goM nl nr l i k = some (ms, a, c) → leftsIn i ((ms.map (pieceM all)).flatten) = some a := by
  induction l with
  | nil =>
    intro i k ms a c _ _ h
    simp only [goM, Option.some.injEq, Prod.mk.injEq] at h
    obtain ⟨rfl, rfl, rfl⟩ := h
    rfl
  | cons s l ih =>
    intro i k ms a c hi hk h
    simp only [goM] at h
    cases hx : takeM nl nr i k s.1 s.2 with
    | none => rw [hx] at h; cases h
    | some t =>
      rw [hx] at h
      simp only at h
      obtain ⟨hm, -, -⟩ := take_mem hx
      obtain ⟨m1, m2, m3, -, -⟩ := mem_moves hm
      cases hg : goM nl nr l (i + t.1) (k + t.2) with
      | none => rw [hg] at h; cases h
      | some r =>
        rw [hg] at h
        obtain ⟨ms', a', c'⟩ := r
        simp only [Option.map_some, Option.some.injEq, Prod.mk.injEq] at h
        obtain ⟨rfl, rfl, rfl⟩ := h
        have h2 := ih _ _ _ _ _ m1 m2 hg
        rw [List.map_cons, List.flatten_cons, leftsIn_append]
        have h3 : leftsIn i (pieceM all (i, k, t.1, t.2)) = some (i + t.1) := by
          unfold pieceM leftsM
          by_cases h0 : 0 < t.1
          · have := hall i (by omega)
            simp only [this, h0, decide_true, Bool.or_true, Bool.and_true, if_true]
            exact leftsIn_left t.1 i
          · have h00 : t.1 = 0 := by omega
            simp only [h00, Nat.lt_irrefl, decide_false, Bool.false_and]
            exact leftsIn_right k t.2 i
        rw [h3]
        exact h2

theorem lefts_all {nl nr : Nat} {all : List Bool} (hall : ∀ i, i < nl → all.getD i false = true) {l : List (Int × Int)} {ms : List (Nat × Nat × Nat × Nat)} (h : matchM nl nr l = some ms) : leftsIn 0 (countM all ms ms.length) = some nl := by
  have := leftsIn_go nl nr all hall l 0 0 ms nl nr (Nat.zero_le _) (Nat.zero_le _) (match_parts h)
  unfold countM
  rw [List.take_of_length_le (by omega)]
  exact this

theorem lefts_step {C : List (Int × Int)} {q r m : Nat} (hm : m < C.length) (h : leftsIn q (C.drop m) = some r) :
    ((C.getD m (0, 0)).1 = 0 → (C.getD m (0, 0)).2 = (q : Int) ∧ leftsIn (q + 1) (C.drop (m + 1)) = some r) ∧ ((C.getD m (0, 0)).1 ≠ 0 → leftsIn q (C.drop (m + 1)) = some r) := by
  have e : C.drop m = C.getD m (0, 0) :: C.drop (m + 1) := by
    rw [List.getD_eq_getElem?_getD, List.getElem?_eq_getElem hm]
    exact List.drop_eq_getElem_cons hm
  rw [e] at h
  generalize C.getD m (0, 0) = x at h ⊢
  simp only [leftsIn] at h
  constructor
  · intro h0
    rw [if_pos h0] at h
    by_cases h2 : x.2 = (q : Int)
    · rw [if_pos h2] at h; exact ⟨h2, h⟩
    · rw [if_neg h2] at h; cases h
  · intro h0
    rw [if_neg h0] at h
    exact h

/-- What is known of one step: what it takes, and which pieces it gives. -/
def OnceAt (l : List (Int × Int)) (nl nr : Nat) (C : List (Int × Int)) (A : Nat → Nat) (q : Nat) : Prop :=
  ∃ a c X Y mn sd fr : Nat, sumL (l.take q) = (a : Int) ∧ sumR (l.take q) = (c : Int) ∧ (l.getD q (0, 0)).1 = (X : Int) ∧ (l.getD q (0, 0)).2 = (Y : Int) ∧ X ≤ 2 ∧ Y ≤ 2 ∧ a + X ≤ nl ∧ c + Y ≤ nr ∧ 0 < mn ∧
    ((sd = 0 ∧ fr = a ∧ mn = X) ∨ (sd = 1 ∧ fr = c ∧ mn = Y)) ∧ (∀ t, t < mn → C.getD (A q + t) (0, 0) = ((sd : Int), ((fr + t : Nat) : Int))) ∧ A q + mn ≤ C.length ∧ A (q + 1) = A q + mn ∧
    sumL (l.take (q + 1)) = ((a + X : Nat) : Int) ∧ sumR (l.take (q + 1)) = ((c + Y : Nat) : Int)

theorem once_all {nl nr : Nat} (lead : List Bool) {l : List (Int × Int)} {ms : List (Nat × Nat × Nat × Nat)} (h : matchM nl nr l = some ms) :
    ∃ A : Nat → Nat, A 0 = 0 ∧ A l.length = (countM lead ms ms.length).length ∧ ∀ q, q < l.length → OnceAt l nl nr (countM lead ms ms.length) A q := by
  have hfit := match_fits h
  refine ⟨fun q => (countM lead ms q).length, by simp [countM], by rw [hfit.1], fun q hq => ?_⟩
  obtain ⟨h1, h2, h3, h4, h5⟩ := go_entries nl nr l 0 0 ms nl nr (match_parts h) q hq
  have hmem : ms.getD q default ∈ ms := by
    rw [List.getD_eq_getElem?_getD, List.getElem?_eq_getElem (by rw [hfit.1]; exact hq)]
    exact List.getElem_mem _
  have hf := hfit.2 _ hmem
  have hs := sum_take l q hq
  have hc := countM_succ lead ms q (by rw [hfit.1]; exact hq)
  have hat := count_at lead ms q (by rw [hfit.1]; exact hq)
  have hp := pieceM_pos lead _ hf.2.2.2.2
  generalize ms.getD q default = M at h1 hf hc hat hp
  subst h1
  obtain ⟨a, ha⟩ := Int.eq_ofNat_of_zero_le h2
  obtain ⟨c, hc'⟩ := Int.eq_ofNat_of_zero_le h3
  obtain ⟨X, hX⟩ := Int.eq_ofNat_of_zero_le h4
  obtain ⟨Y, hY⟩ := Int.eq_ofNat_of_zero_le h5
  rw [ha, hX] at hs
  rw [hc', hY] at hs
  rw [ha, hc', hX, hY] at hf hc hat hp
  simp only [Int.toNat_natCast, Nat.zero_add] at hf hc hat hp
  have hl2 : (countM lead ms (q + 1)).length = (countM lead ms q).length + (pieceM lead (a, c, X, Y)).length := by rw [hc, List.length_append]
  by_cases hlf : leftsM lead (a, c, X, Y) = true
  · have hpe : pieceM lead (a, c, X, Y) = partC 0 a X := by unfold pieceM; rw [if_pos hlf]
    rw [hpe, partC_length] at hat hp hl2
    refine ⟨a, c, X, Y, X, 0, a, ha, hc', hX, hY, hf.2.2.1, hf.2.2.2.1, hf.1, hf.2.1, hp, .inl ⟨rfl, rfl, rfl⟩, fun t ht => ?_, (hat 0 hp).2, hl2, by rw [hs.1]; omega, by rw [hs.2]; omega⟩
    rw [(hat t ht).1, partC_get 0 a X t ht]
    rfl
  · have hpe : pieceM lead (a, c, X, Y) = partC 1 c Y := by unfold pieceM; rw [if_neg hlf]
    rw [hpe, partC_length] at hat hp hl2
    refine ⟨a, c, X, Y, Y, 1, c, ha, hc', hX, hY, hf.2.2.1, hf.2.2.2.1, hf.1, hf.2.1, hp, .inr ⟨rfl, rfl, rfl⟩, fun t ht => ?_, (hat 0 hp).2, hl2, by rw [hs.1]; omega, by rw [hs.2]; omega⟩
    rw [(hat t ht).1, partC_get 1 c Y t ht]
    rfl

end Go.Proofs.Ytohahlnhbppnhaa
