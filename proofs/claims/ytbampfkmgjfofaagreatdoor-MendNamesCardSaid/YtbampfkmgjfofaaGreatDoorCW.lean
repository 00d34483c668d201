/- Mend, the laws: MendTrouble in numbers: the trouble of lists exchanged, of more swaps, its bounds; and what is decided of one request alone. -/
import Derived.Test.YtbampfkmgjfofaaGreatDoorBM
namespace Go.Proofs.YtbampfkmgjfofaaGreatDoor
open Go.RowKit

theorem may_nil (x y : Int × Int) : mayM [] x y = decide (x = y) := by
  simp [mayM, hasSwap]

theorem may_more {S T : List (Int × Int × Int)} {x y : Int × Int} (hST : ∀ s ∈ S, s ∈ T) (h : mayM S x y = true) : mayM T x y = true := by
  unfold mayM hasSwap at h ⊢
  simp only [Bool.or_eq_true, Bool.and_eq_true, decide_eq_true_eq, List.any_eq_true] at h ⊢
  rcases h with h | ⟨h1, s, hs, h2⟩
  · exact Or.inl h
  · exact Or.inr ⟨h1, s, hST s hs, h2⟩

theorem tabM_side0 (S : List (Int × Int × Int)) (a b : List (Int × Int)) (i : Nat) : tabM S a b i 0 = i := by
  cases i <;> simp [tabM]

/-- Without swaps both lists may be exchanged. -/
theorem tabM_turned (a b : List (Int × Int)) : ∀ i k, tabM [] a b i k = tabM [] b a k i := by
  intro i
  induction i with
  | zero => intro k; rw [tabM_side0]; simp [tabM]
  | succ i ih =>
    intro k
    induction k with
    | zero => simp [tabM]
    | succ k ihk =>
      have h1 := ih k
      have h2 := ih (k + 1)
      have hm : mayM [] (a.getD i (0, 0)) (b.getD k (0, 0)) = mayM [] (b.getD k (0, 0)) (a.getD i (0, 0)) := by
        rw [may_nil, may_nil]
        exact decide_eq_decide.2 ⟨fun e => e.symm, fun e => e.symm⟩
      rw [tabM, tabM, h1, h2, ihk, hm]
      omega

theorem trouble_turned (a b : List (Int × Int)) : troubleM [] a b = troubleM [] b a := tabM_turned a b _ _

/-- With more swaps there is no more trouble. -/
theorem tabM_more {S T : List (Int × Int × Int)} (hST : ∀ s ∈ S, s ∈ T) (a b : List (Int × Int)) : ∀ i k, tabM T a b i k ≤ tabM S a b i k := by
  intro i
  induction i with
  | zero => intro k; simp [tabM]
  | succ i ih =>
    intro k
    induction k with
    | zero => simp [tabM]
    | succ k ihk =>
      have h1 := ih k
      have h2 := ih (k + 1)
      have hm : mayM S (a.getD i (0, 0)) (b.getD k (0, 0)) = true → mayM T (a.getD i (0, 0)) (b.getD k (0, 0)) = true := may_more hST
      rw [tabM, tabM]
      by_cases g : mayM S (a.getD i (0, 0)) (b.getD k (0, 0)) = true
      · rw [if_pos g, if_pos (hm g)]; omega
      · rw [if_neg g]
        split <;> omega

theorem trouble_more {S T : List (Int × Int × Int)} (hST : ∀ s ∈ S, s ∈ T) (a b : List (Int × Int)) : troubleM T a b ≤ troubleM S a b := tabM_more hST a b _ _

/-- The trouble is at most the greater number of marks, and at least their difference. -/
theorem tabM_most (S : List (Int × Int × Int)) (a b : List (Int × Int)) : ∀ i k : Nat, tabM S a b i k ≤ max (i : Int) (k : Int) ∧ (i : Int) - k ≤ tabM S a b i k ∧ (k : Int) - i ≤ tabM S a b i k := by
  intro i
  induction i with
  | zero => intro k; simp only [tabM]; omega
  | succ i ih =>
    intro k
    induction k with
    | zero => simp only [tabM]; omega
    | succ k ihk =>
      have h1 := ih k
      have h2 := ih (k + 1)
      rw [tabM]
      split <;> omega

theorem trouble_most (S : List (Int × Int × Int)) (a b : List (Int × Int)) : troubleM S a b ≤ max (a.length : Int) (b.length : Int) ∧ (a.length : Int) - b.length ≤ troubleM S a b ∧ (b.length : Int) - a.length ≤ troubleM S a b :=
  tabM_most S a b _ _

theorem tabM_zero_iff (S : List (Int × Int × Int)) (a b : List (Int × Int)) : ∀ i k : Nat, tabM S a b i k = 0 ↔ i = k ∧ ∀ j, j < i → mayM S (a.getD j (0, 0)) (b.getD j (0, 0)) = true := by
  intro i
  induction i with
  | zero =>
    intro k
    simp only [tabM]
    constructor
    · intro h; exact ⟨by omega, fun j hj => by omega⟩
    · intro h; omega
  | succ i ih =>
    intro k
    cases k with
    | zero =>
      simp only [tabM]
      constructor
      · intro h; omega
      · intro h; omega
    | succ k =>
      have h1 := ih k
      have m1 := tabM_most S a b i k
      have m2 := tabM_most S a b i (k + 1)
      have m3 := tabM_most S a b (i + 1) k
      have p2 : 0 ≤ tabM S a b i (k + 1) := by omega
      have p3 : 0 ≤ tabM S a b (i + 1) k := by omega
      have p1 : 0 ≤ tabM S a b i k := by omega
      rw [tabM]
      by_cases g : mayM S (a.getD i (0, 0)) (b.getD k (0, 0)) = true
      · rw [if_pos g]
        constructor
        · intro h
          have hz : tabM S a b i k = 0 := by omega
          obtain ⟨e, hj⟩ := h1.1 hz
          subst e
          refine ⟨rfl, fun j hj2 => ?_⟩
          rcases (by omega : j < i ∨ j = i) with hlt | rfl
          · exact hj j hlt
          · exact g
        · rintro ⟨e, hj⟩
          have : tabM S a b i k = 0 := h1.2 ⟨by omega, fun j hj2 => hj j (by omega)⟩
          omega
      · rw [if_neg g]
        constructor
        · intro h; omega
        · rintro ⟨e, hj⟩
          obtain rfl : i = k := by omega
          exact absurd (hj i (by omega)) g

/-- There is no trouble just if the one sense may become the other one. -/
theorem trouble_keeps (S : List (Int × Int × Int)) (a b : List (Int × Int)) : troubleM S a b = 0 ↔ keepsM S a b = true := by
  unfold troubleM keepsM
  rw [tabM_zero_iff, Bool.and_eq_true, decide_eq_true_eq, allN_of]

/-- The one request of the member 5 for all words. -/
def ask5 (n : Nat) (B : List Tx) : Req := ⟨5, 0, 0, n, B⟩

/-- The report of the member 5's words. -/
def rep5 (A : List Tx) : List (Tx × Int) := A.map fun t => (t, 5)

theorem texts_all5 (A : List Tx) : textsM (rep5 A) 0 A.length = A := by
  unfold textsM rep5
  rw [List.drop_zero, List.take_of_length_le (by simp), List.map_map]
  simp [Function.comp_def]

theorem alone5 {E : List Ent} {S : List (Int × Int × Int)} {A B : List Tx} (ha : 1 ≤ A.length ∧ A.length ≤ 8) (hb : 1 ≤ B.length ∧ B.length ≤ 8) (hB : B.all textOk = true) :
    aloneM E S (rep5 A) 0 0 [ask5 A.length B] (askI [ask5 A.length B] 0) = if keepsM S (senseM E A) (senseM E B) then 0 else 9 := by
  have hl : (rep5 A).length = A.length := by unfold rep5; rw [List.length_map]
  have e0 : askI [ask5 A.length B] 0 = ⟨5, 0, 0, A.length, none, 0, 0, 0⟩ := rfl
  have ep : ([ask5 A.length B].getD (askI [ask5 A.length B] 0).i default).put = B := rfl
  have z0 : missesM (rep5 A).length (askI [ask5 A.length B] 0) = false := by
    rw [e0, hl]
    unfold missesM inB
    simp
  have z1 : malformedM B (askI [ask5 A.length B] 0) = false := by
    rw [e0]
    unfold malformedM
    have g1 : decide (8 < (A.length : Int) ∨ 8 < B.length) = false := by rw [decide_eq_false_iff_not]; omega
    have g2 : decide ((A.length : Int) = 0) = false := by rw [decide_eq_false_iff_not]; omega
    have g3 : memberOk 5 = true := by decide
    simp only [g1, g2, g3, hB]
    rfl
  have z2 : meddlesM (rep5 A) 5 0 A.length = false := by
    unfold meddlesM
    rw [if_pos (by omega), List.drop_zero, List.take_of_length_le (by rw [hl]; exact Nat.le_refl _)]
    unfold rep5
    simp
  have z3 : lateM 0 0 (askI [ask5 A.length B] 0) = false := by
    rw [e0]
    rfl
  unfold aloneM
  rw [ep]
  simp only [zM, z0, z1, z3]
  rw [show (askI [ask5 A.length B] 0).b = 5 from rfl, show (askI [ask5 A.length B] 0).f.toNat = 0 from rfl, show (askI [ask5 A.length B] 0).c.toNat = A.length from by rw [e0]; simp, z2]
  unfold distortsM
  rw [texts_all5]
  cases keepsM S (senseM E A) (senseM E B) <;> rfl

theorem decide5 {l : Lex} {S : List (Int × Int × Int)} {A B : List Tx} (ha : 1 ≤ A.length ∧ A.length ≤ 8) (hb : 1 ≤ B.length ∧ B.length ≤ 8) (hB : B.all textOk = true) :
    decideM l S (rep5 A) 0 0 [ask5 A.length B] 0 = if troubleM S (senseM (entries l) A) (senseM (entries l) B) = 0 then 0 else 9 := by
  have ho : ordI [ask5 A.length B] = [0] := rfl
  unfold decideM runA askedI
  rw [ho, List.map_cons, List.map_nil, List.foldl_cons, List.foldl_nil]
  unfold stepA verdictA
  rw [alone5 ha hb hB]
  by_cases h : troubleM S (senseM (entries l) A) (senseM (entries l) B) = 0
  · rw [if_pos h]
    rw [if_pos (trouble_keeps S _ _ |>.1 h)]
    rfl
  · rw [if_neg h]
    rw [if_neg (fun k => h ((trouble_keeps S _ _).2 k))]
    rfl

theorem hear5 {l : Lex} {S : List (Int × Int × Int)} {A B : List Tx} (hr : readErr l S = 0) (ha : A.length ≤ 8) (hA : A.all textOk = true) : hearErr l S (rep5 A) 0 0 [ask5 A.length B] = 0 := by
  have hok : reportOk (rep5 A) 0 0 = true := by
    unfold reportOk rep5
    rw [List.all_eq_true] at hA
    simp only [Bool.and_eq_true, decide_eq_true_eq, List.length_map, List.all_eq_true, List.mem_map]
    refine ⟨by omega, ?_, by decide, by decide⟩
    rintro x ⟨t, ht, rfl⟩
    unfold saidOk
    simp only [hA t ht]
    rfl
  unfold hearErr reportErr
  rw [if_pos hr, hok]
  simp

end Go.Proofs.YtbampfkmgjfofaaGreatDoor
