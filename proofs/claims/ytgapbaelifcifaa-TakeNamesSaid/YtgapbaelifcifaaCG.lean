/- Contract of the reference's Valid. Contract of the reference's Paused. -/
import Derived.Test.YtgapbaelifcifaaD
import Derived.Test.YtgapbaelifcifaaY
import Derived.Deep.QuietTactic
import Derived.BigQuiet
namespace Go.Proofs.Ytgapbaelifcifaa
open Go.RowKit

/-- The end of the pause before this one, or -1. -/
def lastOf (L : List (Int × Int)) : Nat → Int
  | 0 => -1
  | k + 1 => (L.getD k (0, 0)).2

theorem pauseOk_iff (len : Int) (L : List (Int × Int)) (k : Nat) : pauseOk len L k = true ↔ ¬ (L.getD k (0, 0)).1 ≤ lastOf L k ∧ ¬ (L.getD k (0, 0)).1 < 0 ∧ ¬ (L.getD k (0, 0)).2 ≤ (L.getD k (0, 0)).1 ∧ ¬ len < (L.getD k (0, 0)).2 := by
  cases k with
  | zero => simp only [pauseOk, okSpan, lastOf, decide_eq_true_eq]; omega
  | succ k => simp only [pauseOk, okSpan, lastOf, Bool.and_eq_true, Bool.not_eq_true', decide_eq_false_iff_not, decide_eq_true_eq]; omega

theorem upto {P : Nat → Prop} {k : Nat} (h : ∀ j, j < k → P j) (hk : P k) : ∀ j, j < k + 1 → P j := fun j hj => by
  rcases Nat.lt_succ_iff_lt_or_eq.1 hj with e | rfl
  · exact h j e
  · exact hk

theorem sit_no {len long short : Int} {L : List (Int × Int)} {k : Nat} (hk : k < L.length) (h : pauseOk len L k = false) : sitOk len long short L = false := by
  rw [sitOk, pausesOk_no hk h]
  simp

set_option maxRecDepth 100000 in
set_option maxHeartbeats 2000000 in
theorem valid_any (L : List (Int × Int)) (len long short : Int) (n cap : Nat) (a : Option Addr) (w : World)
    (hL : L.length = n) (hn : n ≤ maxLen) (hS : Spans w a L) :
    Calls Try.prog 56 #[.agg #[.int .i64 len, .slice a n cap, .int .i64 long, .int .i64 short]] w fun e w' =>
      e = .returned (.bool (sitOk len long short L)) ∧ Below w.heap.size w w' := by
  have HL := hid hL
  clear hL
  have hn' := hn
  unfold maxLen at hn'
  obtain ⟨z, hz⟩ : ∃ z, sitOk len long short L = z := ⟨_, rfl⟩
  rw [hz]
  have HZ := hid hz
  clear hz
  go_enter Try.func56, Try.ntmps56
  go_wp2_with fail
  obtain ⟨W0, hW0⟩ : ∃ W0, W0 = w.alloc (.cells #[.int .i64 len, .slice a n cap, .int .i64 long, .int .i64 short] 24) := ⟨_, rfl⟩
  have hB0 : Below w.heap.size w W0 := by rw [hW0]; exact (Below.refl _ w).alloc (Nat.le_refl _) _
  have c0 : W0.cell? ⟨w.heap.size, 0, none⟩ = some (.int .i64 len) := by rw [hW0]; simp
  have c1 : W0.cell? ⟨w.heap.size, 1, none⟩ = some (.slice a n cap) := by rw [hW0]; simp
  have c2 : W0.cell? ⟨w.heap.size, 2, none⟩ = some (.int .i64 long) := by rw [hW0]; simp
  have c3 : W0.cell? ⟨w.heap.size, 3, none⟩ = some (.int .i64 short) := by rw [hW0]; simp
  have z0 : W0.heap.size = w.heap.size + 1 := by rw [hW0]; simp
  rw [← hW0]
  have hS0 := hS.grown hB0
  clear hW0 hS
  go_loopw [3, 4] (fun l i wr => ∃ k : Nat, k ≤ n ∧ i = .int .i64 k ∧ l = .int .i64 (lastOf L k) ∧ Hid (∀ j, j < k → pauseOk len L j = true) ∧ Below W0.heap.size W0 wr) (fun _ i _ => n - (intOf i).toNat)
  case atStart => exact ⟨0, Nat.zero_le _, rfl, rfl, fun _ h => by omega, Below.refl _ _⟩
  case round =>
    obtain ⟨k, hk, rfl, rfl, hj, hB⟩ := hrel
    have g0 := cell_grown hB c0
    have g1 := cell_grown hB c1
    have g2 := cell_grown hB c2
    have g3 := cell_grown hB c3
    have hSr := hS0.grown hB
    have zr := hB.size
    by_cases hlt : k < n
    · obtain ⟨b, off, rfl, e1, e2⟩ := hSr k (by rw [HL.out]; exact hlt)
      obtain ⟨x, hx⟩ : ∃ x, L.getD k (0, 0) = x := ⟨_, rfl⟩
      have hP := pauseOk_iff len L k
      have hN : lastOf L (k + 1) = (L.getD k (0, 0)).2 := rfl
      rw [hx] at e1 e2 hP hN
      have gb := lt_of_cell e1
      have gw := lt_of_cell g0
      obtain ⟨v1, v2⟩ := x
      simp only at e1 e2 hP hN
      have HP := hid hP
      have HN := hid hN
      obtain ⟨last, hl⟩ : ∃ l, lastOf L k = l := ⟨_, rfl⟩
      rw [hl] at HP ⊢
      clear hx hP hN hl
      by_cases q1 : v1 ≤ last
      · go_wp2
        go_ret
        exact ⟨by rw [← HZ.out, sit_no (by rw [HL.out]; exact hlt) (by cases hp : pauseOk len L k with | false => rfl | true => have := HP.out.1 hp; omega)]; rfl, (hB0.trans (hB.mono (by omega))).trans ((Below.refl _ _).alloc (by omega) _)⟩
      · by_cases q2 : v1 < 0
        · go_wp2
          go_ret
          exact ⟨by rw [← HZ.out, sit_no (by rw [HL.out]; exact hlt) (by cases hp : pauseOk len L k with | false => rfl | true => have := HP.out.1 hp; omega)]; rfl, (hB0.trans (hB.mono (by omega))).trans ((Below.refl _ _).alloc (by omega) _)⟩
        · by_cases q3 : v2 ≤ v1
          · go_wp2
            go_ret
            exact ⟨by rw [← HZ.out, sit_no (by rw [HL.out]; exact hlt) (by cases hp : pauseOk len L k with | false => rfl | true => have := HP.out.1 hp; omega)]; rfl, (hB0.trans (hB.mono (by omega))).trans ((Below.refl _ _).alloc (by omega) _)⟩
          · by_cases q4 : len < v2
            · go_wp2
              go_ret
              exact ⟨by rw [← HZ.out, sit_no (by rw [HL.out]; exact hlt) (by cases hp : pauseOk len L k with | false => rfl | true => have := HP.out.1 hp; omega)]; rfl, (hB0.trans (hB.mono (by omega))).trans ((Below.refl _ _).alloc (by omega) _)⟩
            · go_wp2
              go_roundw
              case rel => exact ⟨k + 1, by omega, by go_num, by rw [HN.out], upto hj.out (HP.out.2 ⟨q1, q2, q3, q4⟩), hB.alloc (by omega) _⟩
              case measure => simp [intOf]; omega
    · have hall : pausesOk len L = true := pausesOk_yes (fun j h => hj.out j (by rw [HL.out] at h; omega))
      have HA := hid hall
      clear hall
      cases b1 : inB len 1 36000 <;> cases b2 : inB long 1 1200 <;> cases b3 : inB short 1 long
      all_goals
        have HB := hid (And.intro b1 (And.intro b2 b3))
        go_wp2_with (go_at_call 27; refine (in_any _ _ _ _).mono ?_; rintro e w' ⟨rfl, rfl⟩)
        go_ret
        exact ⟨by rw [← HZ.out, sitOk, HA.out, HB.out.1, HB.out.2.1, HB.out.2.2]; rfl, hB0.trans (hB.mono (by omega))⟩

end Go.Proofs.Ytgapbaelifcifaa

namespace Go.Proofs.Ytgapbaelifcifaa
open Go.RowKit

/-- Has a pause the second? -/
def pausedM (L : List (Int × Int)) (sec : Int) : Bool := L.any fun p => inB sec p.1 (p.2 - 1)

theorem paused_yes {L : List (Int × Int)} {sec : Int} {k : Nat} (hk : k < L.length) (h : inB sec (L.getD k (0, 0)).1 ((L.getD k (0, 0)).2 - 1) = true) : pausedM L sec = true := by
  unfold pausedM
  rw [List.any_eq_true]
  rw [List.getD_eq_getElem?_getD, List.getElem?_eq_getElem hk, Option.getD_some] at h
  exact ⟨L[k], List.getElem_mem hk, h⟩

theorem paused_no {L : List (Int × Int)} {sec : Int} (h : ∀ j, j < L.length → inB sec (L.getD j (0, 0)).1 ((L.getD j (0, 0)).2 - 1) = false) : pausedM L sec = false := by
  unfold pausedM
  rw [List.any_eq_false]
  intro x hx
  obtain ⟨i, hi, rfl⟩ := List.mem_iff_getElem.1 hx
  have := h i hi
  rw [List.getD_eq_getElem?_getD, List.getElem?_eq_getElem hi, Option.getD_some] at this
  simp [this]

set_option maxRecDepth 100000 in
set_option maxHeartbeats 2000000 in
theorem paused_any (L : List (Int × Int)) (len long short sec : Int) (n cap : Nat) (a : Option Addr) (w : World)
    (hL : L.length = n) (hn : n ≤ maxLen) (hbd : ∀ p ∈ L, 0 ≤ p.2 ∧ p.2 ≤ 36000) (hS : Spans w a L) :
    Calls Try.prog 47 #[.agg #[.int .i64 len, .slice a n cap, .int .i64 long, .int .i64 short], .int .i64 sec] w fun e w' =>
      e = .returned (.bool (pausedM L sec)) ∧ Below w.heap.size w w' := by
  have HL := hid hL
  clear hL
  have hn' := hn
  unfold maxLen at hn'
  obtain ⟨z, hz⟩ : ∃ z, pausedM L sec = z := ⟨_, rfl⟩
  rw [hz]
  have HZ := hid hz
  clear hz
  have HBD := hid hbd
  clear hbd
  go_enter Try.func47, Try.ntmps47
  go_wp2_with fail
  obtain ⟨W0, hW0⟩ : ∃ W0, W0 = w.alloc (.cells #[.int .i64 len, .slice a n cap, .int .i64 long, .int .i64 short] 24) := ⟨_, rfl⟩
  have hB0 : Below w.heap.size w W0 := by rw [hW0]; exact (Below.refl _ w).alloc (Nat.le_refl _) _
  have c1 : W0.cell? ⟨w.heap.size, 1, none⟩ = some (.slice a n cap) := by rw [hW0]; simp
  have z0 : W0.heap.size = w.heap.size + 1 := by rw [hW0]; simp
  rw [← hW0]
  have hS0 := hS.grown hB0
  clear hW0 hS
  go_loopw [5] (fun i wr => ∃ k : Nat, k ≤ n ∧ i = .int .i64 k ∧ Hid (∀ j, j < k → inB sec (L.getD j (0, 0)).1 ((L.getD j (0, 0)).2 - 1) = false) ∧ Below W0.heap.size W0 wr) (fun i _ => n - (intOf i).toNat)
  case atStart => exact ⟨0, Nat.zero_le _, rfl, fun _ h => by omega, Below.refl _ _⟩
  case round =>
    obtain ⟨k, hk, rfl, hj, hB⟩ := hrel
    replace c1 := cell_grown hB c1
    replace hS0 := hS0.grown hB
    have hBw := hB0.trans (hB.mono (by omega))
    by_cases hlt : k < n
    · obtain ⟨b, off, rfl, e1, e2⟩ := hS0 k (by rw [HL.out]; exact hlt)
      have hb2 := HBD.out (L.getD k (0, 0)) (by rw [List.getD_eq_getElem?_getD, List.getElem?_eq_getElem (by rw [HL.out]; exact hlt), Option.getD_some]; exact List.getElem_mem _)
      obtain ⟨x, hx⟩ : ∃ x, L.getD k (0, 0) = x := ⟨_, rfl⟩
      rw [hx] at e1 e2 hb2
      have gb := lt_of_cell e1
      have gw := lt_of_cell c1
      obtain ⟨v1, v2⟩ := x
      simp only at e1 e2 hb2
      have HX := hid hx
      clear hx
      have hkk : (k : Int) < n := by omega
      cases hin : inB sec v1 (v2 - 1)
      all_goals
        have HI := hid hin
        clear hin
        go_wp2_with fail
        go_quiet ((go_at_call 27; exact Calls.quiet_of_same ((in_any _ _ _ _).mono fun e w' h => ⟨h.1, h.2.symm⟩)))
        try rw [HI.out]
        go_wp2
      · go_roundw
        case rel => exact ⟨k + 1, by omega, by go_num, upto hj.out (by rw [HX.out]; exact HI.out), below_drewN hB _⟩
        case measure => simp [intOf]; omega
      · go_ret
        exact ⟨by rw [← HZ.out, paused_yes (k := k) (by rw [HL.out]; exact hlt) (by rw [HX.out]; exact HI.out)]; rfl, below_drewN hBw _⟩
    · go_wp2
      go_ret
      exact ⟨by rw [← HZ.out, paused_no (fun j h => hj.out j (by rw [HL.out] at h; omega))]; rfl, hBw⟩

end Go.Proofs.Ytgapbaelifcifaa
