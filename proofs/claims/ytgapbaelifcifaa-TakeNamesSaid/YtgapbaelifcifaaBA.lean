/- Contracts of validOffice, CheckOffice. -/
import Derived.Test.YtgapbaelifcifaaY
namespace Go.Proofs.Ytgapbaelifcifaa
open Go.RowKit

def repOk (r : Int × Int × Int) : Bool := inB r.1 0 r.2.1 && (decide (r.2.1 ≤ 20) && inB r.2.2 0 36000)

set_option maxHeartbeats 400000 in
theorem vo1_any (k lo hi rest : Int) (w : World) :
    Calls Try.prog 73 #[.int .i64 k, .agg #[.int .i64 lo, .int .i64 hi, .int .i64 rest]] w fun e w' => e = .returned (.bool (repOk (lo, hi, rest))) ∧ Below w.heap.size w w' := by
  have hz : repOk (lo, hi, rest) = (inB lo 0 hi && (decide (hi ≤ 20) && inB rest 0 36000)) := rfl
  generalize repOk (lo, hi, rest) = z at hz ⊢
  cases b1 : inB lo 0 hi <;> by_cases b2 : hi ≤ 20 <;> cases b3 : inB rest 0 36000
  all_goals
    have HZ := hid hz
    clear hz
    go_enter Try.func73, Try.ntmps73
    go_wp2_with (go_at_call 53; refine (within_any _ _ _ _).mono ?_; rintro e w' ⟨rfl, rfl⟩)
    go_ret
    exact ⟨by rw [HZ.out]; simp [b1, b2, b3], (Below.refl _ _).alloc (Nat.le_refl _) _⟩

theorem crew_at {w : World} {a : Option Addr} {C : List (Int × Int × Int)} (h : Crew w a C) {i : Nat} (hi : i < C.length) : ∃ b off lo h2 rest, C.getD i (0, 0, 0) = (lo, h2, rest) ∧ a = some ⟨b, off, none⟩ ∧ w.cell? ⟨b, off + i * 3, none⟩ = some (.int .i64 lo) ∧ w.cell? ⟨b, off + i * 3 + 1, none⟩ = some (.int .i64 h2) ∧ w.cell? ⟨b, off + i * 3 + 2, none⟩ = some (.int .i64 rest) := by
  obtain ⟨b, off, ha, e1, e2, e3⟩ := h i hi
  exact ⟨b, off, _, _, _, rfl, ha, e1, e2, e3⟩

def crewOk (C : List (Int × Int × Int)) : Bool := (List.range C.length).all fun i => repOk (C.getD i (0, 0, 0))

theorem crewOk_no {C : List (Int × Int × Int)} {k : Nat} (hk : k < C.length) (h : repOk (C.getD k (0, 0, 0)) = false) : crewOk C = false := by
  unfold crewOk
  rw [List.all_eq_false]
  exact ⟨k, by simpa using hk, by rw [h]; simp⟩

theorem crewOk_yes {C : List (Int × Int × Int)} (h : ∀ j, j < C.length → repOk (C.getD j (0, 0, 0)) = true) : crewOk C = true := by
  unfold crewOk
  rw [List.all_eq_true]
  intro x hx
  exact h x (by simpa using hx)

theorem crewOk_at {C : List (Int × Int × Int)} (h : crewOk C = true) {i : Nat} (hi : i < C.length) : repOk (C.getD i (0, 0, 0)) = true := by
  unfold crewOk at h
  rw [List.all_eq_true] at h
  exact h i (by simpa using hi)

set_option maxHeartbeats 400000 in
theorem every72 (C : List (Int × Int × Int)) (n cap : Nat) (a : Option Addr) (w : World) (hL : C.length = n) (hn : n ≤ maxLen) (hS : Crew w a C) :
    Calls Try.prog 72 #[.slice a n cap, .func (.func 73) #[] #[]] w fun e w' => e = .returned (.bool (crewOk C)) ∧ Below w.heap.size w w' := by
  have hn' := hn
  unfold maxLen at hn'
  have HL : Hid (C.length = n) := hL
  clear hL
  go_enter Try.func72, Try.ntmps72
  go_wp2
  go_loopw [9] (fun i wr => ∃ k : Nat, k ≤ n ∧ i = .int .i64 k ∧ Hid (∀ j, j < k → repOk (C.getD j (0, 0, 0)) = true) ∧ Below w.heap.size w wr) (fun i _ => n - (intOf i).toNat)
  case atStart => exact ⟨0, Nat.zero_le _, rfl, fun _ h => by omega, Below.refl _ _⟩
  case round =>
    obtain ⟨k, hk, rfl, hj, hB⟩ := hrel
    by_cases hlt : k < n
    · obtain ⟨b, off, lo, h2, rest, hx, rfl, hc1, hc2, hc3⟩ := crew_at hS (i := k) (by rw [HL.out]; exact hlt)
      have HX := hid hx
      clear hx
      have g1 := cell_grown hB hc1
      have g2 := cell_grown hB hc2
      have g3 := cell_grown hB hc3
      have gb := lt_of_cell g1
      go_wp2_with fail
      refine (vo1_any k lo h2 rest _).mono ?_
      rintro e w' ⟨rfl, hb⟩
      by_cases hp : repOk (lo, h2, rest) = true
      · go_wp2
        go_roundw
        case rel => exact ⟨k + 1, by omega, by go_num, fun j hjj => by by_cases e : j = k; · rw [e, HX.out]; exact hp
                                                                       · exact hj.out j (by omega), (hB.alloc hB.size _).trans (hb.mono (by have := hB.size; simp; omega))⟩
        case measure => simp [intOf]; omega
      · go_wp2
        go_ret
        exact ⟨by rw [crewOk_no (by rw [HL.out]; exact hlt) (by rw [HX.out]; simpa using hp)]; rfl, (hB.alloc hB.size _).trans (hb.mono (by have := hB.size; simp; omega))⟩
    · go_wp2
      go_ret
      exact ⟨by rw [crewOk_yes (fun j h => hj.out j (by rw [HL.out] at h; omega))]; rfl, hB⟩

def offOk (due delay : Int) (C : List (Int × Int × Int)) : Bool := inB C.length 1 5 && (inB due 0 36000 && (inB delay 0 36000 && crewOk C))

set_option maxHeartbeats 400000 in
theorem validOffice_any (C : List (Int × Int × Int)) (due delay : Int) (n cap : Nat) (a : Option Addr) (w : World) (hL : C.length = n) (hn : n ≤ maxLen) (hS : Crew w a C) :
    Calls Try.prog 52 #[.agg #[.slice a n cap, .int .i64 due, .int .i64 delay]] w fun e w' => e = .returned (.bool (offOk due delay C)) ∧ Below w.heap.size w w' := by
  have hz : offOk due delay C = (inB n 1 5 && (inB due 0 36000 && (inB delay 0 36000 && crewOk C))) := by rw [← hL]; rfl
  have HL := hid hL
  clear hL
  generalize offOk due delay C = z at hz ⊢
  cases b1 : inB n 1 5 <;> cases b2 : inB due 0 36000 <;> cases b3 : inB delay 0 36000
  all_goals
    have HZ := hid hz
    clear hz
    go_enter Try.func52, Try.ntmps52
    go_wp2_with (first | (go_at_call 53; refine (within_any _ _ _ _).mono ?_; rintro e w' ⟨rfl, rfl⟩) | (go_at_call 72; refine (every72 C n cap a _ HL.out hn (hS.grown ((Below.refl _ _).alloc (Nat.le_refl _) _))).mono ?_; rintro e w1 ⟨rfl, hb⟩))
    go_ret
    first
      | exact ⟨by rw [HZ.out]; simp [b1, b2, b3], (Below.refl _ _).alloc (Nat.le_refl _) _⟩
      | exact ⟨by rw [HZ.out]; simp [b1, b2, b3], ((Below.refl _ _).alloc (Nat.le_refl _) _).trans (hb.mono (by simp))⟩

set_option maxHeartbeats 400000 in
theorem checkOffice_any (C : List (Int × Int × Int)) (due delay : Int) (n cap : Nat) (a : Option Addr) (w : World) (hL : C.length = n) (hn : n ≤ maxLen) (hS : Crew w a C) :
    Calls Try.prog 19 #[.agg #[.slice a n cap, .int .i64 due, .int .i64 delay]] w fun e w' => e = .returned (.int .i64 (if offOk due delay C = true then 0 else 1)) ∧ Below w.heap.size w w' := by
  have HL := hid hL
  clear hL
  by_cases hok : offOk due delay C = true
  · rw [if_pos hok]
    go_enter Try.func19, Try.ntmps19
    go_wp2_with (go_at_call 52; refine (validOffice_any C due delay n cap a _ HL.out hn (hS.grown ((Below.refl _ _).alloc (Nat.le_refl _) _))).mono ?_; rintro e w1 ⟨rfl, hb⟩)
    go_ret
    exact ⟨rfl, ((Below.refl _ _).alloc (Nat.le_refl _) _).trans (hb.mono (by simp))⟩
  · rw [if_neg hok]
    simp only [Bool.not_eq_true] at hok
    go_enter Try.func19, Try.ntmps19
    go_wp2_with (go_at_call 52; refine (validOffice_any C due delay n cap a _ HL.out hn (hS.grown ((Below.refl _ _).alloc (Nat.le_refl _) _))).mono ?_; rintro e w1 ⟨rfl, hb⟩)
    go_ret
    exact ⟨rfl, ((Below.refl _ _).alloc (Nat.le_refl _) _).trans (hb.mono (by simp))⟩

end Go.Proofs.Ytgapbaelifcifaa
