/- Tongue, the laws in numbers: the marks of one sentence. -/
import Derived.Test.YtohahlnhbppnhaaAK
namespace Go.Proofs.Ytohahlnhbppnhaa
open Go.RowKit
set_option linter.unusedSimpArgs false
set_option linter.unusedVariables false

theorem pop8_or : ∀ b, b < 256 → ∀ j, j < 8 → pop8 (b ||| 2 ^ j) ≤ pop8 b + 1 := by decide +kernel

theorem bytes_or (n : Nat) : ∀ x j, ((bytesOf n (x ||| 2 ^ j)).map pop8).sum ≤ ((bytesOf n x).map pop8).sum + 1 := by
  induction n with
  | zero => intro x j; simp [bytesOf]
  | succ n ih =>
    intro x j
    simp only [bytesOf, List.map_cons, List.sum_cons]
    have hm : (x ||| 2 ^ j) % 256 = (x % 256) ||| (2 ^ j % 256) := Nat.or_mod_two_pow (n := 8)
    have hd : (x ||| 2 ^ j) / 256 = (x / 256) ||| (2 ^ j / 256) := Nat.or_div_two_pow (n := 8)
    rw [hm, hd]
    by_cases hj : j < 8
    · have h1 : 2 ^ j < 256 := Nat.pow_lt_pow_right (by decide) hj (a := 2) (m := j) (n := 8)
      rw [Nat.mod_eq_of_lt h1, Nat.div_eq_of_lt h1, Nat.or_zero]
      have := pop8_or (x % 256) (Nat.mod_lt _ (by decide)) j hj
      omega
    · obtain ⟨q, rfl⟩ : ∃ q, j = q + 8 := ⟨j - 8, by omega⟩
      have h2 : 2 ^ (q + 8) = 2 ^ q * 256 := by rw [Nat.pow_add]
      rw [h2, Nat.mul_mod_left, Nat.mul_div_cancel _ (by decide), Nat.or_zero]
      have := ih (x / 256) q
      omega

theorem popM_or (x j : Nat) : popM (x ||| 2 ^ j) ≤ popM x + 1 := bytes_or 8 x j

def sumK (ws : List Nat) (k : Nat) : Nat := ((List.range k).map fun i => popM (ws.getD i 0)).sum

theorem sumK_succ (ws : List Nat) (k : Nat) : sumK ws (k + 1) = sumK ws k + popM (ws.getD k 0) := by
  unfold sumK
  rw [List.range_succ]
  simp

theorem sumK_put (ws : List Nat) (m : Int) (k : Nat) (hk : k ≤ ws.length) : sumK (putW ws m) k ≤ sumK ws k + (if (m / 64).toNat < k then 1 else 0) := by
  induction k with
  | zero => simp [sumK]
  | succ k ih =>
    have hi := ih (by omega)
    rw [sumK_succ, sumK_succ]
    have hg : (putW ws m).getD k 0 = if (m / 64).toNat = k then ws.getD (m / 64).toNat 0 ||| 2 ^ (m % 64).toNat else ws.getD k 0 := by
      unfold putW
      rw [List.getD_eq_getElem?_getD, List.getElem?_set]
      by_cases e : (m / 64).toNat = k
      · rw [if_pos e, if_pos e, if_pos (by omega), Option.getD_some]
      · rw [if_neg e, if_neg e, List.getD_eq_getElem?_getD]
    rw [hg]
    by_cases e : (m / 64).toNat = k
    · rw [if_pos e, if_pos (by omega : (m / 64).toNat < k + 1)]
      rw [if_neg (by omega : ¬ (m / 64).toNat < k)] at hi
      have := popM_or (ws.getD (m / 64).toNat 0) (m % 64).toNat
      rw [e] at this ⊢
      omega
    · rw [if_neg e]
      by_cases e2 : (m / 64).toNat < k
      · rw [if_pos e2] at hi
        rw [if_pos (by omega : (m / 64).toNat < k + 1)]
        omega
      · rw [if_neg e2] at hi
        rw [if_neg (by omega : ¬ (m / 64).toNat < k + 1)]
        omega

theorem sumK_fold (L : List Int) : ∀ ws : List Nat, ws.length = 16 → sumK (foldW ws L) 16 ≤ sumK ws 16 + L.length := by
  induction L with
  | nil => intro ws _; simp [foldW]
  | cons m L ih =>
    intro ws hw
    have h1 := ih (putW ws m) (by unfold putW; rw [List.length_set]; exact hw)
    have h2 := sumK_put ws m 16 (by omega)
    have h3 : foldW ws (m :: L) = foldW (putW ws m) L := rfl
    rw [h3, List.length_cons]
    split at h2 <;> omega

theorem sumK_zero : sumK zeroW 16 = 0 := by decide +kernel

/-- The marks of one sentence, apart from none. -/
theorem apartM_one (x : Sen) : apartM [x] [] ≤ x.marks.length := by
  have h1 : apartM [x] [] = sumK (wordsOf [x]) 16 := by
    unfold apartM apartK sumK
    congr 1
    refine List.map_congr_left fun i hi => ?_
    have hz : (wordsOf []).getD i 0 = 0 := by
      show zeroW.getD i 0 = 0
      unfold zeroW
      rw [List.getD_eq_getElem?_getD, List.getElem?_replicate]
      split <;> rfl
    rw [hz, Nat.xor_zero]
  rw [h1]
  have h2 := sumK_fold (marksOf [x]) zeroW (by simp [zeroW])
  rw [sumK_zero] at h2
  have h3 : marksOf [x] = x.marks := by simp [marksOf]
  have h4 : wordsOf [x] = foldW zeroW (marksOf [x]) := rfl
  rw [h4]
  rw [h3] at h2 ⊢
  omega

theorem price_one (x : Sen) : priceM 1 0 [x] [] ≤ 3 + 2 * x.marks.length := by
  have := apartM_one x
  unfold priceM sidesM
  simp only [if_true, show (1 : Nat) ≠ 0 by decide, show (1 : Nat) ≠ 2 by decide, show (0 : Nat) ≠ 2 by decide, if_false]
  omega

end Go.Proofs.Ytohahlnhbppnhaa
