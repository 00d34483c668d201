/- Tongue, in numbers: what only one side has, counted mark by mark. -/
import Derived.Test.YtohahlnhbppnhaaAL
import Derived.Test.YtohahlnhbppnhaaS
namespace Go.Proofs.Ytohahlnhbppnhaa
open Go.RowKit
set_option linter.unusedSimpArgs false
set_option linter.unusedVariables false

theorem bytes_count (n : Nat) : ∀ x, ((bytesOf n x).map pop8).sum = (List.range (8 * n)).countP fun i => x.testBit i := by
  induction n with
  | zero => intro x; simp [bytesOf]
  | succ n ih =>
    intro x
    simp only [bytesOf, List.map_cons, List.sum_cons]
    rw [ih, show 8 * (n + 1) = 8 + 8 * n by omega, List.range_add, List.countP_append, List.countP_map]
    congr 1
    · unfold pop8
      refine List.countP_congr fun i hi => ?_
      have hi' := List.mem_range.1 hi
      rw [show (256 : Nat) = 2 ^ 8 from rfl, Nat.testBit_mod_two_pow]
      simp [hi']
    · refine List.countP_congr fun i hi => ?_
      rw [show (256 : Nat) = 2 ^ 8 from rfl, Nat.testBit_div_two_pow]
      simp only [Function.comp_apply, Nat.add_comm]

theorem popM_count (x : Nat) : popM x = (List.range 64).countP fun i => x.testBit i := bytes_count 8 x

def hasBit (ws : List Nat) (m : Nat) : Bool := (ws.getD (m / 64) 0).testBit (m % 64)

theorem apartK_count (xs ys : List Nat) (k : Nat) : apartK xs ys k = (List.range (64 * k)).countP fun m => hasBit xs m != hasBit ys m := by
  induction k with
  | zero => simp [apartK]
  | succ k ih =>
    rw [apartK_succ, ih, show 64 * (k + 1) = 64 * k + 64 by omega, List.range_add, List.countP_append, List.countP_map, popM_count]
    congr 1
    refine List.countP_congr fun i hi => ?_
    have hi' := List.mem_range.1 hi
    have e1 : (64 * k + i) / 64 = k := by omega
    have e2 : (64 * k + i) % 64 = i := by omega
    simp only [Function.comp_apply, hasBit, e1, e2, Nat.testBit_xor]

theorem hasBit_put {ws : List Nat} (hw : ws.length = 16) {x : Int} (hx : 0 ≤ x ∧ x ≤ 999) {m : Nat} (hm : m < 1024) : hasBit (putW ws x) m = (hasBit ws m || decide ((m : Int) = x)) := by
  unfold hasBit putW
  rw [List.getD_eq_getElem?_getD, List.getElem?_set]
  by_cases e : (x / 64).toNat = m / 64
  · rw [if_pos e, if_pos (by omega), Option.getD_some, Nat.testBit_or, Nat.testBit_two_pow, e]
    congr 1
    rw [decide_eq_decide]
    omega
  · rw [if_neg e, ← List.getD_eq_getElem?_getD]
    have : ¬ (m : Int) = x := by omega
    simp [this]

theorem hasBit_fold (L : List Int) : ∀ (ws : List Nat), ws.length = 16 → (∀ x ∈ L, 0 ≤ x ∧ x ≤ 999) → ∀ m, m < 1024 → hasBit (foldW ws L) m = (hasBit ws m || decide ((m : Int) ∈ L)) := by
  induction L with
  | nil => intro ws hw hL m hm; simp [foldW]
  | cons x L ih =>
    intro ws hw hL m hm
    have h3 : foldW ws (x :: L) = foldW (putW ws x) L := rfl
    rw [h3, ih _ (by unfold putW; rw [List.length_set]; exact hw) (fun y hy => hL y (List.mem_cons_of_mem _ hy)) m hm, hasBit_put hw (hL x List.mem_cons_self) hm, Bool.or_assoc]
    congr 1
    by_cases e1 : (m : Int) = x <;> by_cases e2 : (m : Int) ∈ L <;> simp [e1, e2]

theorem hasBit_zero (m : Nat) : hasBit zeroW m = false := by
  unfold hasBit zeroW
  rw [List.getD_eq_getElem?_getD, List.getElem?_replicate]
  split <;> simp

theorem marksOf_ok {T : List Sen} (h : MarksOk T) : ∀ x ∈ marksOf T, 0 ≤ x ∧ x ≤ 999 := by
  intro x hx
  unfold marksOf at hx
  obtain ⟨l, hl, hxl⟩ := List.mem_flatten.1 hx
  obtain ⟨s, hs, rfl⟩ := List.mem_map.1 hl
  exact h s hs x hxl

theorem apartM_count {T U : List Sen} (hT : MarksOk T) (hU : MarksOk U) : apartM T U = (List.range 1024).countP fun m : Nat => decide ((m : Int) ∈ marksOf T) != decide ((m : Int) ∈ marksOf U) := by
  unfold apartM
  rw [apartK_count, show 64 * 16 = 1024 from rfl]
  refine List.countP_congr fun m hm => ?_
  have hm' := List.mem_range.1 hm
  unfold wordsOf
  rw [hasBit_fold _ _ (by simp [zeroW]) (marksOf_ok hT) m hm', hasBit_fold _ _ (by simp [zeroW]) (marksOf_ok hU) m hm', hasBit_zero, Bool.false_or, Bool.false_or]

theorem countP_split {α : Type} (p q r : α → Bool) (l : List α) (h : ∀ a ∈ l, r a = (p a || q a)) (hd : ∀ a ∈ l, (p a && q a) = false) : l.countP r = l.countP p + l.countP q := by
  induction l with
  | nil => rfl
  | cons a l ih =>
    have h1 := h a List.mem_cons_self
    have h2 := hd a List.mem_cons_self
    rw [List.countP_cons, List.countP_cons, List.countP_cons, ih (fun b hb => h b (List.mem_cons_of_mem _ hb)) (fun b hb => hd b (List.mem_cons_of_mem _ hb)), h1]
    cases hp : p a <;> cases hq : q a <;> simp_all <;> omega

theorem count_one (x : Int) (N : Nat) (h0 : 0 ≤ x) : (List.range N).countP (fun m : Nat => decide ((m : Int) = x)) = if x < N then 1 else 0 := by
  induction N with
  | zero => simp; omega
  | succ N ih =>
    rw [List.range_succ, List.countP_append, ih]
    by_cases e : (N : Int) = x
    · rw [if_neg (by omega), if_pos (by omega)]
      simp [e]
    · by_cases e2 : x < N
      · rw [if_pos e2, if_pos (by omega)]
        simp [e]
      · rw [if_neg e2, if_neg (by omega)]
        simp [e]

/-- Numbers that are in a list, each once. -/
theorem count_list (L : List Int) (N : Nat) (hn : L.Nodup) (h : ∀ x ∈ L, 0 ≤ x ∧ x < N) : (List.range N).countP (fun m : Nat => decide ((m : Int) ∈ L)) = L.length := by
  induction L with
  | nil => simp
  | cons x L ih =>
    rw [List.nodup_cons] at hn
    have hx := h x List.mem_cons_self
    rw [countP_split (fun m : Nat => decide ((m : Int) = x)) (fun m : Nat => decide ((m : Int) ∈ L)), ih hn.2 (fun y hy => h y (List.mem_cons_of_mem _ hy)), count_one x N hx.1, if_pos hx.2, List.length_cons, Nat.add_comm]
    · intro m _
      by_cases e1 : (m : Int) = x <;> by_cases e2 : (m : Int) ∈ L <;> simp [e1, e2]
    · intro m _
      by_cases e1 : (m : Int) = x
      · subst e1; simp [hn.1]
      · simp [e1]

theorem apartM_self (T : List Sen) : apartM T T = 0 := by
  unfold apartM
  rw [apartK_count]
  simp

theorem marks_nodup {l : List Int} {lo hi : Int} (h : risingM l lo hi = true) : l.Nodup := by
  unfold risingM at h
  rw [List.all_eq_true] at h
  have h1 : ∀ i, i + 1 < l.length → l.getD i 0 < l.getD (i + 1) 0 := fun i hi => by
    have := h (i + 1) (List.mem_range.2 hi)
    simp only [riseAt, Bool.and_eq_true, inB, decide_eq_true_eq, Bool.or_eq_true, Nat.add_sub_cancel] at this
    omega
  have h2 : ∀ d i, i + d + 1 < l.length → l.getD i 0 < l.getD (i + d + 1) 0 := by
    intro d
    induction d with
    | zero => exact fun i hi => h1 i hi
    | succ d ih =>
      intro i hi
      have a := ih i (by omega)
      have b := h1 (i + d + 1) (by omega)
      rw [show i + (d + 1) + 1 = i + d + 1 + 1 by omega]
      omega
  unfold List.Nodup
  rw [List.pairwise_iff_getElem]
  intro i j hi hj hij e
  have := h2 (j - i - 1) i (by omega)
  rw [show i + (j - i - 1) + 1 = j by omega, List.getD_eq_getElem?_getD, List.getD_eq_getElem?_getD, List.getElem?_eq_getElem hi, List.getElem?_eq_getElem hj] at this
  simp only [Option.getD_some] at this
  omega

end Go.Proofs.Ytohahlnhbppnhaa
