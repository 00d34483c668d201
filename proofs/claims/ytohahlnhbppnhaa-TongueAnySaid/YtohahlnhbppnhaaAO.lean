/- Tongue, the laws in numbers: within the times, and none sooner with more. -/
import Derived.Test.YtohahlnhbppnhaaAA
namespace Go.Proofs.Ytohahlnhbppnhaa
open Go.RowKit
set_option linter.unusedSimpArgs false
set_option linter.unusedVariables false

theorem freeN_mono (S : List Int) (D E : Nat → Int) (g h : Int) (hg : g ≤ h) (n : Nat) (hD : ∀ j, j < n → D j ≤ E j) : freeN S D g n ≤ freeN S E h n := by
  induction n with
  | zero => exact Int.le_refl _
  | succ n ih =>
    have h1 := ih (fun j hj => hD j (by omega))
    have h2 := hD n (by omega)
    unfold freeN
    omega

theorem freeN_rise (S : List Int) (D : Nat → Int) (g : Int) (j : Nat) (h : 1 ≤ D j) : freeN S D g j < freeN S D g (j + 1) := by
  rw [show freeN S D g (j + 1) = max (S.getD j 0 + g) (freeN S D g j) + D j from rfl]
  omega

theorem freeN_pos (S : List Int) (D : Nat → Int) (g : Int) (n : Nat) (hD : ∀ j, j < n → 0 ≤ D j) : 0 ≤ freeN S D g n := by
  induction n with
  | zero => exact Int.le_refl _
  | succ n ih =>
    have h1 := ih (fun j hj => hD j (by omega))
    have h2 := hD n (by omega)
    unfold freeN
    omega

theorem freeN_top (S : List Int) (D : Nat → Int) (g : Int) (n : Nat) (hS : ∀ j, j < n → S.getD j 0 ≤ 100000) (hg : g ≤ 60) (hD : ∀ j, j < n → D j ≤ 60) : freeN S D g n ≤ 100060 + 60 * n := by
  induction n with
  | zero => show (0 : Int) ≤ _; omega
  | succ n ih =>
    have h1 := ih (fun j hj => hS j (by omega)) (fun j hj => hD j (by omega))
    have h2 := hD n (by omega)
    have h3 := hS n (by omega)
    unfold freeN
    omega

/-- What the interpreter needs for a sentence, by some words. -/
def needW (s : Spoken) (ws : List Int) (j : Nat) : Int := lows s j + ws.getD (j % ws.length) 0 % (highs s j - lows s j + 1)

theorem needW_in {s : Spoken} (hv : valP s = true) (ws : List Int) {j : Nat} (hj : j < s.starts.length) : lows s j ≤ needW s ws j ∧ needW s ws j ≤ highs s j := by
  obtain ⟨-, -, -, -, -, h6⟩ := valP_parts hv
  obtain ⟨a1, a2, a3⟩ := h6 j hj
  unfold needW lows highs
  have := Int.emod_nonneg (ws.getD (j % ws.length) 0) (b := (s.needs.getD j (0, 0)).2 - (s.needs.getD j (0, 0)).1 + 1) (by omega)
  have := Int.emod_lt_of_pos (ws.getD (j % ws.length) 0) (b := (s.needs.getD j (0, 0)).2 - (s.needs.getD j (0, 0)).1 + 1) (by omega)
  omega

def nowN (s : Spoken) (ws : List Int) (n : Nat) : Int := freeN s.starts (needW s ws) s.lag n

theorem timesN_get (s : Spoken) (n : Nat) {i : Nat} (h : i < n) : (timesN s n).getD i (0, 0) = (freeN s.starts (lows s) s.lag (i + 1), freeN s.starts (highs s) s.lag (i + 1)) := by
  unfold timesN
  rw [List.getD_eq_getElem?_getD, List.getElem?_map, List.getElem?_range h]
  rfl

theorem now_within {s : Spoken} (hv : valP s = true) (ws : List Int) {n i : Nat} (hn : s.starts.length = n) (hi : i < n) :
    ((timesN s n).getD i (0, 0)).1 ≤ nowN s ws (i + 1) ∧ nowN s ws (i + 1) ≤ ((timesN s n).getD i (0, 0)).2 := by
  rw [timesN_get s n hi]
  exact ⟨freeN_mono _ _ _ _ _ (Int.le_refl _) _ (fun j hj => (needW_in hv ws (by omega)).1), freeN_mono _ _ _ _ _ (Int.le_refl _) _ (fun j hj => (needW_in hv ws (by omega)).2)⟩

theorem times_rise {s : Spoken} (hv : valP s = true) {n i : Nat} (hn : s.starts.length = n) (hi : i + 1 < n) :
    ((timesN s n).getD i (0, 0)).1 < ((timesN s n).getD (i + 1) (0, 0)).1 ∧ ((timesN s n).getD i (0, 0)).2 < ((timesN s n).getD (i + 1) (0, 0)).2 := by
  obtain ⟨-, -, -, -, -, h6⟩ := valP_parts hv
  obtain ⟨a1, a2, a3⟩ := h6 (i + 1) (by omega)
  rw [timesN_get s n hi, timesN_get s n (by omega : i < n)]
  exact ⟨freeN_rise _ _ _ _ (by unfold lows; omega), freeN_rise _ _ _ _ (by unfold highs; omega)⟩

theorem times_bounds {s : Spoken} (hv : valP s = true) {n i : Nat} (hn : s.starts.length = n) (hi : i < n) :
    0 ≤ ((timesN s n).getD i (0, 0)).1 ∧ ((timesN s n).getD i (0, 0)).2 ≤ 101260 := by
  obtain ⟨h1, h2, -, h4, -, h6⟩ := valP_parts hv
  rw [timesN_get s n hi]
  refine ⟨freeN_pos _ _ _ _ (fun j hj => by have := h6 j (by omega); unfold lows; omega), ?_⟩
  have := freeN_top s.starts (highs s) s.lag (i + 1) (fun j hj => (h2 j (by omega)).2) h4.2 (fun j hj => (h6 j (by omega)).2.2)
  show freeN s.starts (highs s) s.lag (i + 1) ≤ _
  omega

theorem now_next {s : Spoken} (hv : valP s = true) (ws : List Int) {n i : Nat} {most : Int} (hn : s.starts.length = n) (hi : i < n) (hk : keepsM s.starts (timesN s n) n most = true) :
    nowN s ws (i + 1) - s.starts.getD (min (i + 1) (n - 1)) 0 ≤ most := by
  have h1 := (now_within hv ws hn hi).2
  unfold keepsM at hk
  rw [List.all_eq_true] at hk
  have h2 := hk i (List.mem_range.2 hi)
  simp only [keepAt, decide_eq_true_eq] at h2
  omega

/-- A speech with a greater lag, and greater needs for one sentence. -/
def harder (s : Spoken) (lag : Int) (k : Nat) (more : Int) : Spoken :=
  ⟨s.starts, min 60 (s.lag + lag), s.needs.set k (min (min 60 ((s.needs.getD k (0, 0)).2 + more)) ((s.needs.getD k (0, 0)).1 + more), min 60 ((s.needs.getD k (0, 0)).2 + more))⟩

theorem getD_set {α : Type} (l : List α) (k i : Nat) (x d : α) (h : k < l.length) : (l.set k x).getD i d = if i = k then x else l.getD i d := by
  rw [List.getD_eq_getElem?_getD, List.getElem?_set, List.getD_eq_getElem?_getD]
  by_cases e : k = i
  · subst e; simp [h]
  · simp [e, Ne.symm e]

theorem harder_val {s : Spoken} (hv : valP s = true) {lag more : Int} (hl : 0 ≤ lag) (hm : 0 ≤ more) (k : Nat) (hk : k < s.starts.length) : valP (harder s lag k more) = true := by
  obtain ⟨h1, h2, h3, h4, h5, h6⟩ := valP_parts hv
  unfold valP at hv ⊢
  simp only [Bool.and_eq_true, decide_eq_true_eq] at hv ⊢
  refine ⟨hv.1, hv.2.1, ?_, by simp [harder, h5], ?_⟩
  · have e : (harder s lag k more).lag = min 60 (s.lag + lag) := rfl
    rw [e]
    unfold inB
    rw [decide_eq_true_eq]
    exact ⟨by omega, by omega⟩
  · refine allR_true fun i hi => ?_
    have hi' : i < s.starts.length := by simp only [harder, List.length_set] at hi; omega
    simp only [harder]
    rw [getD_set _ _ _ _ _ (by omega)]
    have a := h6 i hi'
    have b := h6 k hk
    by_cases e : i = k
    · subst e
      rw [if_pos rfl]
      simp only [valR, Bool.and_eq_true, decide_eq_true_eq]
      omega
    · rw [if_neg e]
      simp only [valR, Bool.and_eq_true, decide_eq_true_eq]
      omega

theorem harder_later {s : Spoken} (hv : valP s = true) {lag more : Int} (hl : 0 ≤ lag) (hm : 0 ≤ more) (k : Nat) (hk : k < s.starts.length) {n i : Nat} (hn : s.starts.length = n) (hi : i < n) :
    ((timesN s n).getD i (0, 0)).1 ≤ ((timesN (harder s lag k more) n).getD i (0, 0)).1 ∧ ((timesN s n).getD i (0, 0)).2 ≤ ((timesN (harder s lag k more) n).getD i (0, 0)).2 := by
  obtain ⟨h1, h2, h3, h4, h5, h6⟩ := valP_parts hv
  rw [timesN_get s n hi, timesN_get _ n hi]
  have hg : s.lag ≤ (harder s lag k more).lag := by simp only [harder]; omega
  have hb := h6 k hk
  refine ⟨freeN_mono _ _ _ _ _ hg _ (fun j hj => ?_), freeN_mono _ _ _ _ _ hg _ (fun j hj => ?_)⟩
  · simp only [lows, harder]
    rw [getD_set _ _ _ _ _ (by omega)]
    by_cases e : j = k
    · subst e; rw [if_pos rfl]; show _ ≤ min _ _; omega
    · rw [if_neg e]; exact Int.le_refl _
  · simp only [highs, harder]
    rw [getD_set _ _ _ _ _ (by omega)]
    by_cases e : j = k
    · subst e; rw [if_pos rfl]; show _ ≤ min _ _; omega
    · rw [if_neg e]; exact Int.le_refl _

end Go.Proofs.Ytohahlnhbppnhaa
