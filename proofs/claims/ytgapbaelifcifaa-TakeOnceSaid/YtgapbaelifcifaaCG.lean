/- Contract of the reference's Paused. -/
import Derived.Test.YtgapbaelifcifaaCF
import Derived.Test.YtgapbaelifcifaaX
import Derived.Deep.QuietTactic
import Derived.BigQuiet
namespace Go.Proofs.Ytgapbaelifcifaa
open Go.RowKit

/-- Has a pause the second? -/
def pausedM (L : List (Int × Int)) (sec : Int) : Bool := L.any fun p => inB sec p.1 (p.2 - 1)

theorem paused_yes {L : List (Int × Int)} {sec : Int} {k : Nat} (hk : k < L.length) (h : inB sec (L.getD k (0, 0)).1 ((L.getD k (0, 0)).2 - 1) = true) : pausedM L sec = true := by
  unfold pausedM
  rw [List.any_eq_true]
  rw [List.getD_eq_getElem?_getD, List.getElem?_eq_getElem hk, Option.getD_some] at h
  exact ⟨L[k], List.getElem_mem hk, h⟩

theorem paused_no {L : List (Int × Int)} {sec : Int} (h : ∀ j, j < L.length → inB sec (L.getD j (0, 0)).1 ((L.getD j (0, 0)).2 - 1) = false) : pausedM L sec = false := by
  unfold pausedM
  rw [List.any_eq_false]
  intro x hx
  obtain ⟨i, hi, rfl⟩ := List.mem_iff_getElem.1 hx
  have := h i hi
  rw [List.getD_eq_getElem?_getD, List.getElem?_eq_getElem hi, Option.getD_some] at this
  simp [this]

set_option maxRecDepth 100000 in
set_option maxHeartbeats 2000000 in
theorem paused_any (L : List (Int × Int)) (len long short sec : Int) (n cap : Nat) (a : Option Addr) (w : World)
    (hL : L.length = n) (hn : n ≤ maxLen) (hbd : ∀ p ∈ L, 0 ≤ p.2 ∧ p.2 ≤ 36000) (hS : Spans w a L) :
    Calls Try.prog 47 #[.agg #[.int .i64 len, .slice a n cap, .int .i64 long, .int .i64 short], .int .i64 sec] w fun e w' =>
      e = .returned (.bool (pausedM L sec)) ∧ Below w.heap.size w w' := by
  have HL := hid hL
  clear hL
  have hn' := hn
  unfold maxLen at hn'
  obtain ⟨z, hz⟩ : ∃ z, pausedM L sec = z := ⟨_, rfl⟩
  rw [hz]
  have HZ := hid hz
  clear hz
  have HBD := hid hbd
  clear hbd
  go_enter Try.func47, Try.ntmps47
  go_wp2_with fail
  obtain ⟨W0, hW0⟩ : ∃ W0, W0 = w.alloc (.cells #[.int .i64 len, .slice a n cap, .int .i64 long, .int .i64 short] 24) := ⟨_, rfl⟩
  have hB0 : Below w.heap.size w W0 := by rw [hW0]; exact (Below.refl _ w).alloc (Nat.le_refl _) _
  have c1 : W0.cell? ⟨w.heap.size, 1, none⟩ = some (.slice a n cap) := by rw [hW0]; simp
  have z0 : W0.heap.size = w.heap.size + 1 := by rw [hW0]; simp
  rw [← hW0]
  have hS0 := hS.grown hB0
  clear hW0 hS
  go_loopw [5] (fun i wr => ∃ k : Nat, k ≤ n ∧ i = .int .i64 k ∧ Hid (∀ j, j < k → inB sec (L.getD j (0, 0)).1 ((L.getD j (0, 0)).2 - 1) = false) ∧ Below W0.heap.size W0 wr) (fun i _ => n - (intOf i).toNat)
  case atStart => exact ⟨0, Nat.zero_le _, rfl, fun _ h => by omega, Below.refl _ _⟩
  case round =>
    obtain ⟨k, hk, rfl, hj, hB⟩ := hrel
    replace c1 := cell_grown hB c1
    replace hS0 := hS0.grown hB
    have hBw := hB0.trans (hB.mono (by omega))
    by_cases hlt : k < n
    · obtain ⟨b, off, rfl, e1, e2⟩ := hS0 k (by rw [HL.out]; exact hlt)
      have hb2 := HBD.out (L.getD k (0, 0)) (by rw [List.getD_eq_getElem?_getD, List.getElem?_eq_getElem (by rw [HL.out]; exact hlt), Option.getD_some]; exact List.getElem_mem _)
      obtain ⟨x, hx⟩ : ∃ x, L.getD k (0, 0) = x := ⟨_, rfl⟩
      rw [hx] at e1 e2 hb2
      have gb := lt_of_cell e1
      have gw := lt_of_cell c1
      obtain ⟨v1, v2⟩ := x
      simp only at e1 e2 hb2
      have HX := hid hx
      clear hx
      have hkk : (k : Int) < n := by omega
      cases hin : inB sec v1 (v2 - 1)
      all_goals
        have HI := hid hin
        clear hin
        go_wp2_with fail
        go_quiet ((go_at_call 27; exact Calls.quiet_of_same ((in_any _ _ _ _).mono fun e w' h => ⟨h.1, h.2.symm⟩)))
        try rw [HI.out]
        go_wp2
      · go_roundw
        case rel => exact ⟨k + 1, by omega, by go_num, upto hj.out (by rw [HX.out]; exact HI.out), below_drewN hB _⟩
        case measure => simp [intOf]; omega
      · go_ret
        exact ⟨by rw [← HZ.out, paused_yes (k := k) (by rw [HL.out]; exact hlt) (by rw [HX.out]; exact HI.out)]; rfl, below_drewN hBw _⟩
    · go_wp2
      go_ret
      exact ⟨by rw [← HZ.out, paused_no (fun j h => hj.out j (by rw [HL.out] at h; omega))]; rfl, hBw⟩

end Go.Proofs.Ytgapbaelifcifaa
