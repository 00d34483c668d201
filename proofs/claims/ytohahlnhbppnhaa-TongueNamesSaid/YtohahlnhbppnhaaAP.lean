/- Tongue, the laws in numbers: one sentence more at the end of a text. Tongue, the laws in numbers: the marks of one sentence. Tongue, in numbers: what only one side has, counted mark by mark. -/
import Derived.Test.YtohahlnhbppnhaaM
import Derived.Test.YtohahlnhbppnhaaS
namespace Go.Proofs.Ytohahlnhbppnhaa
open Go.RowKit
set_option linter.unusedSimpArgs false
set_option linter.unusedVariables false

theorem minL_le_mem {L : List Int} : ∀ x ∈ L, minL L ≤ x := by
  have hf : ∀ (L : List Int) (x : Int), L.foldl min x ≤ x ∧ ∀ y ∈ L, L.foldl min x ≤ y := by
    intro L
    induction L with
    | nil => exact fun x => ⟨Int.le_refl _, fun y hy => by cases hy⟩
    | cons z L ih =>
      intro x
      rw [List.foldl_cons]
      have h := ih (min x z)
      refine ⟨Int.le_trans h.1 (Int.min_le_left _ _), fun y hy => ?_⟩
      rcases List.mem_cons.1 hy with rfl | hy
      · exact Int.le_trans h.1 (Int.min_le_right _ _)
      · exact h.2 y hy
  cases L with
  | nil => intro x hx; cases hx
  | cons x L =>
    intro y hy
    rcases List.mem_cons.1 hy with rfl | hy
    · exact (hf L _).1
    · exact (hf L x).2 y hy

theorem moves_wider {nl nr i k : Nat} {s : Nat × Nat} (h : s ∈ movesM nl nr i k) : s ∈ movesM (nl + 1) nr i k := by
  unfold movesM at h ⊢
  simp only [List.mem_filter, fitsM, Bool.and_eq_true, decide_eq_true_eq] at h ⊢
  exact ⟨h.1, by omega, h.2.2⟩

theorem price_wider (L R : List Sen) (x : Sen) {i k : Nat} {s : Nat × Nat} (h : i + s.1 ≤ L.length) : priceAt (L ++ [x]) R i k s = priceAt L R i k s := by
  unfold priceAt
  rw [List.drop_append_of_le_length (by omega), List.take_append_of_le_length (by rw [List.length_drop]; omega)]

/-- One sentence more costs at most what it costs alone. -/
theorem restF_more (L R : List Sen) (x : Sen) (n : Nat) : ∀ i k, i ≤ L.length → k ≤ R.length → (L.length - i) + (R.length - k) ≤ n → restF (L ++ [x]) R (n + 1) i k ≤ restF L R n i k + priceM 1 0 [x] [] := by
  have hlen : (L ++ [x]).length = L.length + 1 := by simp
  induction n with
  | zero =>
    intro i k hi hk hn
    have hi' : i = L.length := by omega
    have hk' : k = R.length := by omega
    subst hi' hk'
    unfold restF
    refine Int.le_trans (minL_le_mem ((priceAt (L ++ [x]) R L.length R.length (1, 0) : Int) + restF (L ++ [x]) R 0 (L.length + 1) (R.length + 0)) ?_) ?_
    · refine List.mem_map.2 ⟨(1, 0), ?_, rfl⟩
      unfold movesM kinds
      simp only [List.mem_filter, fitsM, Bool.and_eq_true, decide_eq_true_eq, hlen]
      exact ⟨by simp, by omega, by omega⟩
    · unfold priceAt restF
      simp
  | succ n ih =>
    intro i k hi hk hn
    by_cases hm : movesM L.length R.length i k = []
    · have hik : i = L.length ∧ k = R.length := by
        have hno : ∀ s ∈ kinds, fitsM L.length R.length i k s = false := fun s hs => by
          cases hf : fitsM L.length R.length i k s with
          | false => rfl
          | true =>
            have : s ∈ movesM L.length R.length i k := List.mem_filter.2 ⟨hs, hf⟩
            rw [hm] at this
            cases this
        have h1 := hno (1, 0) (by simp [kinds])
        have h2 := hno (0, 1) (by simp [kinds])
        simp only [fitsM, Bool.and_eq_false_iff, decide_eq_false_iff_not] at h1 h2
        omega
      obtain ⟨rfl, rfl⟩ := hik
      have hz : restF L R (n + 1) L.length R.length = 0 := by
        unfold restF
        rw [hm]
        rfl
      rw [hz]
      unfold restF
      refine Int.le_trans (minL_le_mem ((priceAt (L ++ [x]) R L.length R.length (1, 0) : Int) + restF (L ++ [x]) R (n + 1) (L.length + 1) (R.length + 0)) ?_) ?_
      · refine List.mem_map.2 ⟨(1, 0), ?_, rfl⟩
        unfold movesM kinds
        simp only [List.mem_filter, fitsM, Bool.and_eq_true, decide_eq_true_eq, hlen]
        exact ⟨by simp, by omega, by omega⟩
      · have hend : restF (L ++ [x]) R (n + 1) (L.length + 1) (R.length + 0) = 0 := by
          unfold restF
          rw [hlen, moves_none (by omega)]
          rfl
        rw [hend]
        unfold priceAt
        simp
    · have hmin := minL_mem (L := (movesM L.length R.length i k).map fun s => (priceAt L R i k s : Int) + restF L R n (i + s.1) (k + s.2)) (by simpa using hm)
      obtain ⟨s, hs, he⟩ := List.mem_map.1 hmin
      have hmv := mem_moves hs
      have hr : restF L R (n + 1) i k = (priceAt L R i k s : Int) + restF L R n (i + s.1) (k + s.2) := by
        rw [he]
        rfl
      rw [hr]
      have h2 := ih (i + s.1) (k + s.2) (by omega) (by omega) (by omega)
      have h3 : restF (L ++ [x]) R (n + 1 + 1) i k ≤ (priceAt (L ++ [x]) R i k s : Int) + restF (L ++ [x]) R (n + 1) (i + s.1) (k + s.2) := by
        show minL _ ≤ _
        refine minL_le_mem _ (List.mem_map.2 ⟨s, ?_, rfl⟩)
        rw [hlen]
        exact moves_wider hs
      rw [price_wider L R x hmv.1] at h3
      omega

theorem restM_more (L R : List Sen) (x : Sen) : restM (L ++ [x]) R 0 0 ≤ restM L R 0 0 + priceM 1 0 [x] [] := by
  have h := restF_more L R x (L.length + R.length) 0 0 (by omega) (by omega) (by omega)
  unfold restM
  rw [List.length_append]
  have e1 : (L.length + [x].length - 0) + (R.length - 0) = L.length + R.length + 1 := by simp; omega
  have e2 : (L.length - 0) + (R.length - 0) = L.length + R.length := by omega
  rw [e1, e2]
  exact h

end Go.Proofs.Ytohahlnhbppnhaa

namespace Go.Proofs.Ytohahlnhbppnhaa
open Go.RowKit
set_option linter.unusedSimpArgs false
set_option linter.unusedVariables false

theorem pop8_or : ∀ b, b < 256 → ∀ j, j < 8 → pop8 (b ||| 2 ^ j) ≤ pop8 b + 1 := by decide +kernel

theorem bytes_or (n : Nat) : ∀ x j, ((bytesOf n (x ||| 2 ^ j)).map pop8).sum ≤ ((bytesOf n x).map pop8).sum + 1 := by
  induction n with
  | zero => intro x j; simp [bytesOf]
  | succ n ih =>
    intro x j
    simp only [bytesOf, List.map_cons, List.sum_cons]
    have hm : (x ||| 2 ^ j) % 256 = (x % 256) ||| (2 ^ j % 256) := Nat.or_mod_two_pow (n := 8)
    have hd : (x ||| 2 ^ j) / 256 = (x / 256) ||| (2 ^ j / 256) := Nat.or_div_two_pow (n := 8)
    rw [hm, hd]
    by_cases hj : j < 8
    · have h1 : 2 ^ j < 256 := Nat.pow_lt_pow_right (by decide) hj (a := 2) (m := j) (n := 8)
      rw [Nat.mod_eq_of_lt h1, Nat.div_eq_of_lt h1, Nat.or_zero]
      have := pop8_or (x % 256) (Nat.mod_lt _ (by decide)) j hj
      omega
    · obtain ⟨q, rfl⟩ : ∃ q, j = q + 8 := ⟨j - 8, by omega⟩
      have h2 : 2 ^ (q + 8) = 2 ^ q * 256 := by rw [Nat.pow_add]
      rw [h2, Nat.mul_mod_left, Nat.mul_div_cancel _ (by decide), Nat.or_zero]
      have := ih (x / 256) q
      omega

theorem popM_or (x j : Nat) : popM (x ||| 2 ^ j) ≤ popM x + 1 := bytes_or 8 x j

def sumK (ws : List Nat) (k : Nat) : Nat := ((List.range k).map fun i => popM (ws.getD i 0)).sum

theorem sumK_succ (ws : List Nat) (k : Nat) : sumK ws (k + 1) = sumK ws k + popM (ws.getD k 0) := by
  unfold sumK
  rw [List.range_succ]
  simp

theorem sumK_put (ws : List Nat) (m : Int) (k : Nat) (hk : k ≤ ws.length) : sumK (putW ws m) k ≤ sumK ws k + (if (m / 64).toNat < k then 1 else 0) := by
  induction k with
  | zero => simp [sumK]
  | succ k ih =>
    have hi := ih (by omega)
    rw [sumK_succ, sumK_succ]
    have hg : (putW ws m).getD k 0 = if (m / 64).toNat = k then ws.getD (m / 64).toNat 0 ||| 2 ^ (m % 64).toNat else ws.getD k 0 := by
      unfold putW
      rw [List.getD_eq_getElem?_getD, List.getElem?_set]
      by_cases e : (m / 64).toNat = k
      · rw [if_pos e, if_pos e, if_pos (by omega), Option.getD_some]
      · rw [if_neg e, if_neg e, List.getD_eq_getElem?_getD]
    rw [hg]
    by_cases e : (m / 64).toNat = k
    · rw [if_pos e, if_pos (by omega : (m / 64).toNat < k + 1)]
      rw [if_neg (by omega : ¬ (m / 64).toNat < k)] at hi
      have := popM_or (ws.getD (m / 64).toNat 0) (m % 64).toNat
      rw [e] at this ⊢
      omega
    · rw [if_neg e]
      by_cases e2 : (m / 64).toNat < k
      · rw [if_pos e2] at hi
        rw [if_pos (by omega : (m / 64).toNat < k + 1)]
        omega
      · rw [if_neg e2] at hi
        rw [if_neg (by omega : ¬ (m / 64).toNat < k + 1)]
        omega

theorem sumK_fold (L : List Int) : ∀ ws : List Nat, ws.length = 16 → sumK (foldW ws L) 16 ≤ sumK ws 16 + L.length := by
  induction L with
  | nil => intro ws _; simp [foldW]
  | cons m L ih =>
    intro ws hw
    have h1 := ih (putW ws m) (by unfold putW; rw [List.length_set]; exact hw)
    have h2 := sumK_put ws m 16 (by omega)
    have h3 : foldW ws (m :: L) = foldW (putW ws m) L := rfl
    rw [h3, List.length_cons]
    split at h2 <;> omega

theorem sumK_zero : sumK zeroW 16 = 0 := by decide +kernel

/-- The marks of one sentence, apart from none. -/
theorem apartM_one (x : Sen) : apartM [x] [] ≤ x.marks.length := by
  have h1 : apartM [x] [] = sumK (wordsOf [x]) 16 := by
    unfold apartM apartK sumK
    congr 1
    refine List.map_congr_left fun i hi => ?_
    have hz : (wordsOf []).getD i 0 = 0 := by
      show zeroW.getD i 0 = 0
      unfold zeroW
      rw [List.getD_eq_getElem?_getD, List.getElem?_replicate]
      split <;> rfl
    rw [hz, Nat.xor_zero]
  rw [h1]
  have h2 := sumK_fold (marksOf [x]) zeroW (by simp [zeroW])
  rw [sumK_zero] at h2
  have h3 : marksOf [x] = x.marks := by simp [marksOf]
  have h4 : wordsOf [x] = foldW zeroW (marksOf [x]) := rfl
  rw [h4]
  rw [h3] at h2 ⊢
  omega

theorem price_one (x : Sen) : priceM 1 0 [x] [] ≤ 3 + 2 * x.marks.length := by
  have := apartM_one x
  unfold priceM sidesM
  simp only [if_true, show (1 : Nat) ≠ 0 by decide, show (1 : Nat) ≠ 2 by decide, show (0 : Nat) ≠ 2 by decide, if_false]
  omega

end Go.Proofs.Ytohahlnhbppnhaa

namespace Go.Proofs.Ytohahlnhbppnhaa
open Go.RowKit
set_option linter.unusedSimpArgs false
set_option linter.unusedVariables false

theorem bytes_count (n : Nat) : ∀ x, ((bytesOf n x).map pop8).sum = (List.range (8 * n)).countP fun i => x.testBit i := by
  induction n with
  | zero => intro x; simp [bytesOf]
  | succ n ih =>
    intro x
    simp only [bytesOf, List.map_cons, List.sum_cons]
    rw [ih, show 8 * (n + 1) = 8 + 8 * n by omega, List.range_add, List.countP_append, List.countP_map]
    congr 1
    · unfold pop8
      refine List.countP_congr fun i hi => ?_
      have hi' := List.mem_range.1 hi
      rw [show (256 : Nat) = 2 ^ 8 from rfl, Nat.testBit_mod_two_pow]
      simp [hi']
    · refine List.countP_congr fun i hi => ?_
      rw [show (256 : Nat) = 2 ^ 8 from rfl, Nat.testBit_div_two_pow]
      simp only [Function.comp_apply, Nat.add_comm]

theorem popM_count (x : Nat) : popM x = (List.range 64).countP fun i => x.testBit i := bytes_count 8 x

def hasBit (ws : List Nat) (m : Nat) : Bool := (ws.getD (m / 64) 0).testBit (m % 64)

theorem apartK_count (xs ys : List Nat) (k : Nat) : apartK xs ys k = (List.range (64 * k)).countP fun m => hasBit xs m != hasBit ys m := by
  induction k with
  | zero => simp [apartK]
  | succ k ih =>
    rw [apartK_succ, ih, show 64 * (k + 1) = 64 * k + 64 by omega, List.range_add, List.countP_append, List.countP_map, popM_count]
    congr 1
    refine List.countP_congr fun i hi => ?_
    have hi' := List.mem_range.1 hi
    have e1 : (64 * k + i) / 64 = k := by omega
    have e2 : (64 * k + i) % 64 = i := by omega
    simp only [Function.comp_apply, hasBit, e1, e2, Nat.testBit_xor]

theorem hasBit_put {ws : List Nat} (hw : ws.length = 16) {x : Int} (hx : 0 ≤ x ∧ x ≤ 999) {m : Nat} (hm : m < 1024) : hasBit (putW ws x) m = (hasBit ws m || decide ((m : Int) = x)) := by
  unfold hasBit putW
  rw [List.getD_eq_getElem?_getD, List.getElem?_set]
  by_cases e : (x / 64).toNat = m / 64
  · rw [if_pos e, if_pos (by omega), Option.getD_some, Nat.testBit_or, Nat.testBit_two_pow, e]
    congr 1
    rw [decide_eq_decide]
    omega
  · rw [if_neg e, ← List.getD_eq_getElem?_getD]
    have : ¬ (m : Int) = x := by omega
    simp [this]

theorem hasBit_fold (L : List Int) : ∀ (ws : List Nat), ws.length = 16 → (∀ x ∈ L, 0 ≤ x ∧ x ≤ 999) → ∀ m, m < 1024 → hasBit (foldW ws L) m = (hasBit ws m || decide ((m : Int) ∈ L)) := by
  induction L with
  | nil => intro ws hw hL m hm; simp [foldW]
  | cons x L ih =>
    intro ws hw hL m hm
    have h3 : foldW ws (x :: L) = foldW (putW ws x) L := rfl
    rw [h3, ih _ (by unfold putW; rw [List.length_set]; exact hw) (fun y hy => hL y (List.mem_cons_of_mem _ hy)) m hm, hasBit_put hw (hL x List.mem_cons_self) hm, Bool.or_assoc]
    congr 1
    by_cases e1 : (m : Int) = x <;> by_cases e2 : (m : Int) ∈ L <;> simp [e1, e2]

theorem hasBit_zero (m : Nat) : hasBit zeroW m = false := by
  unfold hasBit zeroW
  rw [List.getD_eq_getElem?_getD, List.getElem?_replicate]
  split <;> simp

theorem marksOf_ok {T : List Sen} (h : MarksOk T) : ∀ x ∈ marksOf T, 0 ≤ x ∧ x ≤ 999 := by
  intro x hx
  unfold marksOf at hx
  obtain ⟨l, hl, hxl⟩ := List.mem_flatten.1 hx
  obtain ⟨s, hs, rfl⟩ := List.mem_map.1 hl
  exact h s hs x hxl

theorem apartM_count {T U : List Sen} (hT : MarksOk T) (hU : MarksOk U) : apartM T U = (List.range 1024).countP fun m : Nat => decide ((m : Int) ∈ marksOf T) != decide ((m : Int) ∈ marksOf U) := by
  unfold apartM
  rw [apartK_count, show 64 * 16 = 1024 from rfl]
  refine List.countP_congr fun m hm => ?_
  have hm' := List.mem_range.1 hm
  unfold wordsOf
  rw [hasBit_fold _ _ (by simp [zeroW]) (marksOf_ok hT) m hm', hasBit_fold _ _ (by simp [zeroW]) (marksOf_ok hU) m hm', hasBit_zero, Bool.false_or, Bool.false_or]

theorem countP_split {α : Type} (p q r : α → Bool) (l : List α) (h : ∀ a ∈ l, r a = (p a || q a)) (hd : ∀ a ∈ l, (p a && q a) = false) : l.countP r = l.countP p + l.countP q := by
  induction l with
  | nil => rfl
  | cons a l ih =>
    have h1 := h a List.mem_cons_self
    have h2 := hd a List.mem_cons_self
    rw [List.countP_cons, List.countP_cons, List.countP_cons, ih (fun b hb => h b (List.mem_cons_of_mem _ hb)) (fun b hb => hd b (List.mem_cons_of_mem _ hb)), h1]
    cases hp : p a <;> cases hq : q a <;> simp_all <;> omega

theorem count_one (x : Int) (N : Nat) (h0 : 0 ≤ x) : (List.range N).countP (fun m : Nat => decide ((m : Int) = x)) = if x < N then 1 else 0 := by
  induction N with
  | zero => simp; omega
  | succ N ih =>
    rw [List.range_succ, List.countP_append, ih]
    by_cases e : (N : Int) = x
    · rw [if_neg (by omega), if_pos (by omega)]
      simp [e]
    · by_cases e2 : x < N
      · rw [if_pos e2, if_pos (by omega)]
        simp [e]
      · rw [if_neg e2, if_neg (by omega)]
        simp [e]

/-- Numbers that are in a list, each once. -/
theorem count_list (L : List Int) (N : Nat) (hn : L.Nodup) (h : ∀ x ∈ L, 0 ≤ x ∧ x < N) : (List.range N).countP (fun m : Nat => decide ((m : Int) ∈ L)) = L.length := by
  induction L with
  | nil => simp
  | cons x L ih =>
    rw [List.nodup_cons] at hn
    have hx := h x List.mem_cons_self
    rw [countP_split (fun m : Nat => decide ((m : Int) = x)) (fun m : Nat => decide ((m : Int) ∈ L)), ih hn.2 (fun y hy => h y (List.mem_cons_of_mem _ hy)), count_one x N hx.1, if_pos hx.2, List.length_cons, Nat.add_comm]
    · intro m _
      by_cases e1 : (m : Int) = x <;> by_cases e2 : (m : Int) ∈ L <;> simp [e1, e2]
    · intro m _
      by_cases e1 : (m : Int) = x
      · subst e1; simp [hn.1]
      · simp [e1]

theorem apartM_self (T : List Sen) : apartM T T = 0 := by
  unfold apartM
  rw [apartK_count]
  simp

theorem marks_nodup {l : List Int} {lo hi : Int} (h : risingM l lo hi = true) : l.Nodup := by
  unfold risingM at h
  rw [List.all_eq_true] at h
  have h1 : ∀ i, i + 1 < l.length → l.getD i 0 < l.getD (i + 1) 0 := fun i hi => by
    have := h (i + 1) (List.mem_range.2 hi)
    simp only [riseAt, Bool.and_eq_true, inB, decide_eq_true_eq, Bool.or_eq_true, Nat.add_sub_cancel] at this
    omega
  have h2 : ∀ d i, i + d + 1 < l.length → l.getD i 0 < l.getD (i + d + 1) 0 := by
    intro d
    induction d with
    | zero => exact fun i hi => h1 i hi
    | succ d ih =>
      intro i hi
      have a := ih i (by omega)
      have b := h1 (i + d + 1) (by omega)
      rw [show i + (d + 1) + 1 = i + d + 1 + 1 by omega]
      omega
  unfold List.Nodup
  rw [List.pairwise_iff_getElem]
  intro i j hi hj hij e
  have := h2 (j - i - 1) i (by omega)
  rw [show i + (j - i - 1) + 1 = j by omega, List.getD_eq_getElem?_getD, List.getD_eq_getElem?_getD, List.getElem?_eq_getElem hi, List.getElem?_eq_getElem hj] at this
  simp only [Option.getD_some] at this
  omega

end Go.Proofs.Ytohahlnhbppnhaa
