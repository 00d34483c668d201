/- Tongue: which sentences are valid. -/
import Derived.Test.YtohahlnhbppnhaaB
namespace Go.Proofs.Ytohahlnhbppnhaa
open Go.RowKit
set_option linter.unusedSimpArgs false
set_option linter.unusedVariables false

/-- Do the numbers rise, at this place, and is this one within bounds? -/
def riseAt (l : List Int) (lo hi : Int) (i : Nat) : Bool := inB (l.getD i 0) lo hi && (decide (i = 0) || decide (l.getD (i - 1) 0 < l.getD i 0))

/-- Numbers that rise, within bounds. -/
def risingM (l : List Int) (lo hi : Int) : Bool := (List.range l.length).all (riseAt l lo hi)

theorem rising_true {l : List Int} {lo hi : Int} (h : ∀ i, i < l.length → riseAt l lo hi i = true) : risingM l lo hi = true := by
  unfold risingM
  rw [List.all_eq_true]
  exact fun i hi => h i (List.mem_range.1 hi)

theorem rising_false {l : List Int} {lo hi : Int} {i : Nat} (hi' : i < l.length) (h : riseAt l lo hi i = false) : risingM l lo hi = false := by
  cases hv : risingM l lo hi
  · rfl
  · unfold risingM at hv
    rw [List.all_eq_true] at hv
    rw [hv i (List.mem_range.2 hi')] at h
    cases h

set_option maxRecDepth 100000 in
set_option maxHeartbeats 1000000 in
theorem rising_any (l : List Int) (lo hi : Int) (n cap : Nat) (a : Option Addr) (w : World) (hl : l.length = n) (hn : n ≤ 1000000) (hS : IntsAt w a l) :
    Calls Try.prog 96 #[.slice a n cap, .int .i64 lo, .int .i64 hi] w fun e w' => e = .returned (.bool (risingM l lo hi)) ∧ Below w.heap.size w w' := by
  have HL := hid hl
  clear hl
  go_enter Try.func96, Try.ntmps96
  go_wp2_with fail
  go_loopw [7, 8, 11] (fun _ _ j wr => ∃ m : Nat, m ≤ n ∧ j = .int .i64 m ∧ Hid (∀ i, i < m → riseAt l lo hi i = true) ∧ Below w.heap.size w wr) (fun _ _ j _ => n - (intOf j).toNat)
  case atStart => exact ⟨0, Nat.zero_le _, rfl, hid (fun i hi => by omega), Below.refl _ _⟩
  case round =>
    obtain ⟨m, hm, rfl, HK, hB⟩ := hrel
    by_cases hlt : m < n
    · have hlt' : (m : Int) < n := by omega
      obtain ⟨b, off, ea, e1⟩ := hS m (by rw [HL.out]; exact hlt)
      subst ea
      replace e1 := cell_grown hB e1
      have gb := lt_of_cell e1
      have hwi := fun W => within_any (l.getD m 0) lo hi W
      cases hin : inB (l.getD m 0) lo hi
      · have hf : risingM l lo hi = false := rising_false (i := m) (by rw [HL.out]; exact hlt) (by unfold riseAt; rw [hin]; rfl)
        rw [hin] at hwi
        have HF := hid hf
        clear hf hin
        generalize l.getD m 0 = x at e1 hwi
        go_wp2_with (go_at_call 69; refine (hwi _).mono ?_; rintro e w' ⟨rfl, rfl⟩)
        go_ret
        exact ⟨by rw [HF.out]; rfl, hB⟩
      · rw [hin] at hwi
        by_cases h0 : m = 0
        · have hr : riseAt l lo hi m = true := by unfold riseAt; rw [hin, h0]; rfl
          have HR : Hid (∀ i, i < m + 1 → riseAt l lo hi i = true) := hid (fun i hi => by
            by_cases e : i = m
            · rw [e]; exact hr
            · exact HK.out i (by omega))
          clear hr hin
          generalize l.getD m 0 = x at e1 hwi
          have hm0 : ¬ (0 : Int) < (m : Int) := by omega
          clear h0
          go_wp2_with (go_at_call 69; refine (hwi _).mono ?_; rintro e w' ⟨rfl, rfl⟩)
          go_roundw
          case rel => exact ⟨m + 1, by omega, by go_num, HR, hB⟩
          case measure => simp [intOf]; omega
        · obtain ⟨q, rfl⟩ : ∃ q, m = q + 1 := ⟨m - 1, by omega⟩
          obtain ⟨b', off', ea, e2⟩ := hS q (by rw [HL.out]; omega)
          cases ea
          replace e2 := cell_grown hB e2
          have hq0 : (0 : Int) < ((q + 1 : Nat) : Int) := by omega
          have hqe : ((q + 1 : Nat) : Int) - 1 = (q : Int) := by omega
          have hqn : q < n := by omega
          by_cases hlt2 : l.getD q 0 < l.getD (q + 1) 0
          · have hr : riseAt l lo hi (q + 1) = true := by unfold riseAt; rw [hin]; simp only [Nat.add_sub_cancel, Bool.true_and, Bool.or_eq_true, decide_eq_true_eq]; exact .inr hlt2
            have HR : Hid (∀ i, i < q + 1 + 1 → riseAt l lo hi i = true) := hid (fun i hi => by
              by_cases e : i = q + 1
              · rw [e]; exact hr
              · exact HK.out i (by omega))
            clear hr hin
            generalize l.getD (q + 1) 0 = x at e1 hwi hlt2
            generalize l.getD q 0 = y at e2 hlt2
            have hge : ¬ x ≤ y := by omega
            go_wp2_with (go_at_call 69; refine (hwi _).mono ?_; rintro e w' ⟨rfl, rfl⟩)
            go_roundw
            case rel => exact ⟨q + 1 + 1, by omega, by go_num, HR, hB⟩
            case measure => simp [intOf]; omega
          · have hf : risingM l lo hi = false := rising_false (i := q + 1) (by rw [HL.out]; exact hlt) (by
              unfold riseAt
              rw [hin]
              simp only [Nat.add_sub_cancel, Bool.true_and, Bool.or_eq_false_iff, decide_eq_false_iff_not]
              exact ⟨by omega, hlt2⟩)
            have HF := hid hf
            clear hf hin
            generalize l.getD (q + 1) 0 = x at e1 hwi hlt2
            generalize l.getD q 0 = y at e2 hlt2
            have hge : x ≤ y := by omega
            go_wp2_with (go_at_call 69; refine (hwi _).mono ?_; rintro e w' ⟨rfl, rfl⟩)
            go_ret
            exact ⟨by rw [HF.out]; rfl, hB⟩
    · have hmn : m = n := by omega
      subst hmn
      have hr : risingM l lo hi = true := rising_true (fun i hi => HK.out i (by rw [← HL.out]; exact hi))
      have HR := hid hr
      clear hr
      go_wp2_with fail
      go_ret
      exact ⟨by rw [HR.out]; rfl, hB⟩

/-- Has a sentence not too many marks? -/
def limS (s : Sen) : Bool := decide (s.marks.length ≤ 12)

/-- Is a sentence as it has to be? -/
def valS (s : Sen) : Bool := risingM s.marks 0 999 && inB s.size 1 200

set_option maxHeartbeats 400000 in
theorem limS_any (s : Sen) (mc : Nat) (ma : Option Addr) (w : World) (hn : s.marks.length ≤ 1000000) :
    Calls Try.prog 130 #[.agg #[.slice ma s.marks.length mc, .int .i64 s.size]] w fun e w' => e = .returned (.bool (limS s)) ∧ Below w.heap.size w w' := by
  unfold limS
  generalize s.marks.length = m at hn ⊢
  generalize s.size = z
  by_cases h : m ≤ 12
  · have h' : (m : Int) ≤ 12 := by omega
    go_enter Try.func130, Try.ntmps130
    go_wp2_with fail
    go_ret
    exact ⟨by simp [h], below_alloc _ _⟩
  · have h' : ¬ (m : Int) ≤ 12 := by omega
    go_enter Try.func130, Try.ntmps130
    go_wp2_with fail
    go_ret
    exact ⟨by simp [h], below_alloc _ _⟩

set_option maxHeartbeats 400000 in
theorem valS_any (s : Sen) (mc : Nat) (ma : Option Addr) (w : World) (hn : s.marks.length ≤ 1000000) (hS : IntsAt w ma s.marks) :
    Calls Try.prog 131 #[.agg #[.slice ma s.marks.length mc, .int .i64 s.size]] w fun e w' => e = .returned (.bool (valS s)) ∧ Below w.heap.size w w' := by
  have hb0 := below_alloc w (.cells #[.slice ma s.marks.length mc, .int .i64 s.size] 91)
  have hr : ∀ W, Below w.heap.size w W → Calls Try.prog 96 #[.slice ma s.marks.length mc, .int .i64 0, .int .i64 999] W fun e w' => e = .returned (.bool (risingM s.marks 0 999)) ∧ Below W.heap.size W w' := fun W hW => rising_any s.marks 0 999 _ mc ma W rfl hn (hS.grown hW)
  unfold valS
  generalize s.marks.length = m at hn hr hb0 ⊢
  generalize s.size = z at hb0 ⊢
  cases h : risingM s.marks 0 999
  · rw [h] at hr
    go_enter Try.func131, Try.ntmps131
    go_wp2_with (go_at_call 96; refine (hr _ hb0).mono ?_; rintro e w1 ⟨rfl, hb1⟩)
    go_ret
    exact ⟨rfl, below_then hb0 hb1⟩
  · rw [h] at hr
    have c1 : (w.alloc (.cells #[.slice ma m mc, .int .i64 z] 91)).cell? ⟨w.heap.size, 1, none⟩ = some (.int .i64 z) := by simp
    go_enter Try.func131, Try.ntmps131
    go_wp2_with (first | (go_at_call 96; refine (hr _ hb0).mono ?_; rintro e w1 ⟨rfl, hb1⟩; replace c1 := cell_grown hb1 c1; have g1 := lt_of_cell c1) | (go_at_call 69; refine (within_any z 1 200 _).mono ?_; rintro e w' ⟨rfl, rfl⟩))
    go_ret
    exact ⟨by simp, below_then hb0 hb1⟩

end Go.Proofs.Ytohahlnhbppnhaa
