/- Tongue, the reference in numbers: marks that are missing on a side; prices. -/
import Derived.Test.YtohahlnhbppnhaaAP
import Derived.Test.YtohahlnhbppnhaaAJ
namespace Go.Proofs.Ytohahlnhbppnhaa
open Go.RowKit
set_option linter.unusedSimpArgs false
set_option linter.unusedVariables false

def hasM (U : List Sen) (m : Int) : Bool := decide (m ∈ marksOf U)
/-- Whether a mark of the i-th sentence is missing on the other side, and not counted yet. -/
def lostM (T U : List Sen) (i : Nat) (m : Int) : Bool := !hasM U m && !hasM (T.take i) m
/-- How many of the first k marks of the i-th sentence are missing. -/
def missRow (T U : List Sen) (i k : Nat) : Nat := ((T.getD i default).marks.take k).countP (lostM T U i)
def missK (T U : List Sen) (i : Nat) : Nat := ((List.range i).map fun j => missRow T U j (T.getD j default).marks.length).sum
def missM (T U : List Sen) : Nat := missK T U T.length

theorem missK_succ (T U : List Sen) (i : Nat) : missK T U (i + 1) = missK T U i + missRow T U i (T.getD i default).marks.length := by
  unfold missK
  rw [List.range_succ, List.map_append, List.sum_append]
  simp

theorem missRow_zero (T U : List Sen) (i : Nat) : missRow T U i 0 = 0 := rfl

theorem take_countP (M : List Int) (p : Int → Bool) (k : Nat) (hk : k < M.length) : (M.take (k + 1)).countP p = (M.take k).countP p + (if p (M.getD k 0) then 1 else 0) := by
  have e : M.getD k 0 = M[k] := by rw [List.getD_eq_getElem?_getD, List.getElem?_eq_getElem hk]; rfl
  rw [e, List.take_add_one, List.getElem?_eq_getElem hk, List.countP_append]
  simp [List.countP_cons]

theorem missRow_succ (T U : List Sen) (i k : Nat) (hk : k < (T.getD i default).marks.length) : missRow T U i (k + 1) = missRow T U i k + (if lostM T U i ((T.getD i default).marks.getD k 0) then 1 else 0) :=
  take_countP _ _ k hk

theorem missRow_le (T U : List Sen) (i k : Nat) : missRow T U i k ≤ k := by
  unfold missRow
  refine Nat.le_trans List.countP_le_length ?_
  rw [List.length_take]
  omega

theorem missK_le (T U : List Sen) (i : Nat) (h : ∀ j, j < i → (T.getD j default).marks.length ≤ 1000) : missK T U i ≤ 1000 * i := by
  induction i with
  | zero => simp [missK]
  | succ i ih =>
    rw [missK_succ]
    have h1 := ih (fun j hj => h j (by omega))
    have h2 := missRow_le T U i (T.getD i default).marks.length
    have h3 := h i (by omega)
    omega

theorem marksOf_append (A B : List Sen) : marksOf (A ++ B) = marksOf A ++ marksOf B := by
  unfold marksOf
  rw [List.map_append, List.flatten_append]

theorem hasM_take (T : List Sen) (i : Nat) (hi : i < T.length) (m : Int) : hasM (T.take (i + 1)) m = (hasM (T.take i) m || decide (m ∈ (T.getD i default).marks)) := by
  unfold hasM
  rw [marksOf_take T i hi]
  by_cases h1 : m ∈ marksOf (T.take i) <;> by_cases h2 : m ∈ (T.getD i default).marks <;> simp [h1, h2]

def EachOnce (T : List Sen) : Prop := ∀ s ∈ T, s.marks.Nodup

theorem missK_count {T U : List Sen} (hT : MarksOk T) (hn : EachOnce T) (i : Nat) (hi : i ≤ T.length) : missK T U i = (List.range 1024).countP fun m : Nat => hasM (T.take i) (m : Int) && !hasM U (m : Int) := by
  induction i with
  | zero => simp [missK, hasM, marksOf]
  | succ i ih =>
    have hmem : T.getD i default ∈ T := sen_mem (by omega)
    have key := countP_split (fun m : Nat => hasM (T.take i) (m : Int) && !hasM U (m : Int)) (fun m : Nat => decide ((m : Int) ∈ (T.getD i default).marks.filter (lostM T U i))) (fun m : Nat => hasM (T.take (i + 1)) (m : Int) && !hasM U (m : Int)) (List.range 1024) (fun m _ => by
      rw [hasM_take T i (by omega)]
      simp only [List.mem_filter, lostM]
      cases hasM (T.take i) (m : Int) <;> cases hasM U (m : Int) <;> simp) (fun m _ => by
      simp only [List.mem_filter, lostM]
      cases hasM (T.take i) (m : Int) <;> cases hasM U (m : Int) <;> simp)
    have hcl := count_list ((T.getD i default).marks.filter (lostM T U i)) 1024 ((hn _ hmem).sublist List.filter_sublist) (fun x hx => by
      have := hT _ hmem x (List.mem_filter.1 hx).1
      omega)
    rw [hcl] at key
    rw [missK_succ, ih (by omega), key]
    have hr : missRow T U i (T.getD i default).marks.length = ((T.getD i default).marks.filter (lostM T U i)).length := by
      unfold missRow
      rw [List.take_length, List.countP_eq_length_filter]
    rw [hr]

theorem apart_miss {T U : List Sen} (hT : MarksOk T) (hU : MarksOk U) (nT : EachOnce T) (nU : EachOnce U) : apartM T U = missM T U + missM U T := by
  unfold missM
  rw [apartM_count hT hU, missK_count hT nT _ (Nat.le_refl _), missK_count hU nU _ (Nat.le_refl _), List.take_length, List.take_length]
  refine countP_split _ _ _ _ (fun m _ => ?_) (fun m _ => ?_)
  · unfold hasM
    cases decide ((m : Int) ∈ marksOf T) <;> cases decide ((m : Int) ∈ marksOf U) <;> rfl
  · cases hasM T (m : Int) <;> cases hasM U (m : Int) <;> rfl

theorem EachOnce.part {T : List Sen} (h : EachOnce T) (l k : Nat) : EachOnce ((T.drop l).take k) := fun s hs => h s (List.mem_of_mem_drop (List.mem_of_mem_take hs))

theorem MarksOk.part {T : List Sen} (h : MarksOk T) (l k : Nat) : MarksOk ((T.drop l).take k) := fun s hs => h s (List.mem_of_mem_drop (List.mem_of_mem_take hs))

theorem once_of {T : List Sen} (h : valT T = true) : EachOnce T := by
  intro s hs
  unfold valT at h
  have := List.all_eq_true.1 h s hs
  unfold valS at this
  simp only [Bool.and_eq_true] at this
  exact marks_nodup this.1

/-- What the reference takes for a step with these sides. -/
def refPrice (T U : List Sen) : Nat := 2 * missM T U + 2 * missM U T + (if T.length = 0 ∨ U.length = 0 then 3 else 0) + (if T.length = 2 ∨ U.length = 2 then 1 else 0)

theorem refPrice_is {T U : List Sen} (hT : MarksOk T) (hU : MarksOk U) (nT : EachOnce T) (nU : EachOnce U) {s : Nat × Nat} (hs : s ∈ kinds) (h1 : T.length = s.1) (h2 : U.length = s.2) : refPrice T U = priceM s.1 s.2 T U := by
  unfold refPrice priceM
  rw [apart_miss hT hU nT nU, h1, h2]
  simp only [kinds, List.mem_cons, List.not_mem_nil, or_false] at hs
  rcases hs with rfl | rfl | rfl | rfl | rfl <;> simp [sidesM] <;> omega

end Go.Proofs.Ytohahlnhbppnhaa
