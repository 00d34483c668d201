/- Tongue, the reference: do numbers rise. -/
import Derived.Test.YtohahlnhbppnhaaAF
namespace Go.Proofs.Ytohahlnhbppnhaa
open Go.RowKit
set_option linter.unusedSimpArgs false
set_option linter.unusedVariables false

theorem below_drewN {B : Nat} {w W : World} (h : Below B w W) (q : Nat) : Below B w (W.drewN q) := ⟨h.os, h.tape, h.output, h.size, h.block⟩

set_option maxHeartbeats 400000 in
theorem in_any (n lo hi : Int) (w : World) : Calls Try.prog 41 #[.int .i64 n, .int .i64 lo, .int .i64 hi] w fun e w' => e = .returned (.bool (inB n lo hi)) ∧ w' = w := by
  have hv : inB n lo hi = (decide (lo ≤ n) && decide (n ≤ hi)) := by unfold inB; by_cases h1 : lo ≤ n <;> by_cases h2 : n ≤ hi <;> simp [h1, h2]
  rw [hv]
  clear hv
  by_cases h1 : lo ≤ n
  · by_cases h2 : n ≤ hi
    · go_enter Try.func41, Try.ntmps41
      go_wp2_with fail
      go_ret
      exact ⟨by simp [h1, h2], rfl⟩
    · go_enter Try.func41, Try.ntmps41
      go_wp2_with fail
      go_ret
      exact ⟨by simp [h2], rfl⟩
  · go_enter Try.func41, Try.ntmps41
    go_wp2_with fail
    go_ret
    exact ⟨by simp; intro h; omega, rfl⟩

/-- Is a number more than the one before it? -/
def stepUp (l : List Int) (i : Nat) : Bool := decide (i = 0) || decide (l.getD (i - 1) 0 < l.getD i 0)

def refRise (l : List Int) : Bool := (List.range l.length).all (stepUp l)

theorem refRise_true {l : List Int} (h : ∀ i, i < l.length → stepUp l i = true) : refRise l = true := by
  unfold refRise
  rw [List.all_eq_true]
  exact fun i hi => h i (List.mem_range.1 hi)

theorem refRise_false {l : List Int} {i : Nat} (hi' : i < l.length) (h : stepUp l i = false) : refRise l = false := by
  cases hv : refRise l
  · rfl
  · unfold refRise at hv
    rw [List.all_eq_true] at hv
    rw [hv i (List.mem_range.2 hi')] at h
    cases h

theorem rising_split (l : List Int) (lo hi : Int) : risingM l lo hi = ((l.all fun x => inB x lo hi) && refRise l) := by
  rw [Bool.eq_iff_iff, Bool.and_eq_true]
  unfold risingM refRise
  rw [List.all_eq_true, List.all_eq_true, List.all_eq_true]
  constructor
  · intro h
    refine ⟨fun x hx => ?_, fun i hi => ?_⟩
    · obtain ⟨i, hi', rfl⟩ := List.mem_iff_getElem.1 hx
      have := h i (List.mem_range.2 hi')
      simp only [riseAt, Bool.and_eq_true] at this
      have h1 := this.1
      rwa [List.getD_eq_getElem?_getD, List.getElem?_eq_getElem hi', Option.getD_some] at h1
    · have := h i hi
      simp only [riseAt, Bool.and_eq_true] at this
      exact this.2
  · rintro ⟨h1, h2⟩ i hi'
    simp only [riseAt, Bool.and_eq_true]
    refine ⟨?_, h2 i hi'⟩
    have hi2 := List.mem_range.1 hi'
    rw [List.getD_eq_getElem?_getD, List.getElem?_eq_getElem hi2, Option.getD_some]
    exact h1 _ (List.getElem_mem _)

set_option maxRecDepth 100000 in
set_option maxHeartbeats 1000000 in
theorem refRise_any (l : List Int) (n cap : Nat) (a : Option Addr) (w : World) (hl : l.length = n) (hn : n ≤ 1000000) (hS : IntsAt w a l) :
    Calls Try.prog 72 #[.slice a n cap] w fun e w' => e = .returned (.bool (refRise l)) ∧ Below w.heap.size w w' := by
  have HL := hid hl
  clear hl
  go_enter Try.func72, Try.ntmps72
  go_wp2_with fail
  go_loopw [3] (fun i wr => ∃ q : Nat, (q + 1 ≤ n ∨ q = 0) ∧ i = .int .i64 ((q + 1 : Nat) : Int) ∧ Hid (∀ i, i < q + 1 → stepUp l i = true) ∧ Below w.heap.size w wr) (fun i _ => n - (intOf i).toNat)
  case atStart => exact ⟨0, .inr rfl, rfl, hid (fun i hi => by have h0 : i = 0 := (by omega); subst h0; rfl), Below.refl _ _⟩
  case round =>
    obtain ⟨q, hq, rfl, HK, hB⟩ := hrel
    by_cases hlt : q + 1 < n
    · have hlt' : ((q + 1 : Nat) : Int) < n := by omega
      obtain ⟨b, off, ea, e1⟩ := hS (q + 1) (by rw [HL.out]; exact hlt)
      subst ea
      obtain ⟨b', off', ea, e2⟩ := hS q (by rw [HL.out]; omega)
      cases ea
      replace e1 := cell_grown hB e1
      replace e2 := cell_grown hB e2
      have gb := lt_of_cell e1
      have hq0 : (0 : Int) < ((q + 1 : Nat) : Int) := by omega
      have hqe : ((q + 1 : Nat) : Int) - 1 = (q : Int) := by omega
      have hqn : q < n := by omega
      have HU : Hid (stepUp l (q + 1) = decide (l.getD q 0 < l.getD (q + 1) 0)) := hid (by unfold stepUp; simp)
      generalize l.getD (q + 1) 0 = x at e1 HU
      generalize l.getD q 0 = y at e2 HU
      by_cases hxy : x ≤ y
      · have hf : refRise l = false := refRise_false (i := q + 1) (by rw [HL.out]; exact hlt) (by rw [HU.out]; simp; omega)
        have HF := hid hf
        clear hf
        go_wp2_with fail
        go_quiet (fail)
        go_wp2_with fail
        go_ret
        exact ⟨by rw [HF.out]; rfl, below_drewN hB _⟩
      · have HR : Hid (stepUp l (q + 1) = true) := hid (by rw [HU.out]; simp; omega)
        go_wp2_with fail
        go_quiet (fail)
        go_wp2_with fail
        go_roundw
        case rel => exact ⟨q + 1, .inl (by omega), by go_num, hid (fun i hi => by
          by_cases e : i = q + 1
          · rw [e]; exact HR.out
          · exact HK.out i (by omega)), below_drewN hB _⟩
        case measure => simp [intOf]; omega
    · have hle : ¬ ((q + 1 : Nat) : Int) < n := by omega
      have hr : refRise l = true := refRise_true (fun i hi => HK.out i (by rw [HL.out] at hi; omega))
      have HR := hid hr
      clear hr
      go_wp2_with fail
      go_ret
      exact ⟨by rw [HR.out]; rfl, hB⟩

end Go.Proofs.Ytohahlnhbppnhaa
