/- Contract of the reference's SittingFault. -/
import Derived.Test.YtgapbaelifcifaaCJ
import Derived.Test.YtgapbaelifcifaaCG
namespace Go.Proofs.Ytgapbaelifcifaa
open Go.RowKit

/-- What is wrong with a sitting, if anything is. -/
def sitErr (len long short : Int) (L : List (Int × Int)) : Int :=
  if sitOk len long short L = false then 1 else if 40 < (takesOf len long short L).length then 3 else 0

set_option maxRecDepth 100000 in
set_option maxHeartbeats 1000000 in
theorem fault_any (L : List (Int × Int)) (len long short : Int) (n cap : Nat) (a : Option Addr) (w : World)
    (hL : L.length = n) (hn : n ≤ 60) (hS : Spans w a L) :
    Calls Try.prog 24 #[.agg #[.int .i64 len, .slice a n cap, .int .i64 long, .int .i64 short]] w fun e w' =>
      e = .returned (.int .i64 (sitErr len long short L)) ∧ Below w.heap.size w w' := by
  have HL := hid hL
  clear hL
  obtain ⟨z, hz⟩ : ∃ z, sitErr len long short L = z := ⟨_, rfl⟩
  rw [hz]
  have HZ := hid hz
  clear hz
  go_enter Try.func24, Try.ntmps24
  go_wp2_with fail
  obtain ⟨W0, hW0⟩ : ∃ W0, W0 = w.alloc (.cells #[.int .i64 len, .slice a n cap, .int .i64 long, .int .i64 short] 24) := ⟨_, rfl⟩
  have hB0 : Below w.heap.size w W0 := by rw [hW0]; exact (Below.refl _ w).alloc (Nat.le_refl _) _
  have c0 : W0.cell? ⟨w.heap.size, 0, none⟩ = some (.int .i64 len) := by rw [hW0]; simp
  have c1 : W0.cell? ⟨w.heap.size, 1, none⟩ = some (.slice a n cap) := by rw [hW0]; simp
  have c2 : W0.cell? ⟨w.heap.size, 2, none⟩ = some (.int .i64 long) := by rw [hW0]; simp
  have c3 : W0.cell? ⟨w.heap.size, 3, none⟩ = some (.int .i64 short) := by rw [hW0]; simp
  have z0 : W0.heap.size = w.heap.size + 1 := by rw [hW0]; simp
  rw [← hW0]
  clear hW0
  have hS0 := hS.grown hB0
  refine (valid_any L len long short n cap a W0 HL.out (by unfold maxLen; omega) hS0).mono ?_
  rintro e w1 ⟨rfl, hb1⟩
  have z1 := hb1.size
  replace c0 := cell_grown hb1 c0
  replace c1 := cell_grown hb1 c1
  replace c2 := cell_grown hb1 c2
  replace c3 := cell_grown hb1 c3
  replace hS0 := hS0.grown hb1
  have hB1 : Below w.heap.size w w1 := hB0.trans (hb1.mono (by omega))
  clear hb1 hB0 hS
  by_cases hok : sitOk len long short L = true
  · have HOK := hid hok
    rw [hok]
    clear hok
    go_wp2_with fail
    refine (takesR_any L len long short n cap a w1 HL.out hn hS0 HOK.out).mono ?_
    rintro e w2 ⟨ra, rc, rfl, hl, hb2⟩
    have hB2 := hB1.trans (hb2.mono (by omega))
    obtain ⟨m, hm⟩ : ∃ m, (takesOf len long short L).length = m := ⟨_, rfl⟩
    rw [hm] at hl ⊢
    have HM := hid hm
    clear hm hb2
    by_cases h40 : 40 < m
    · have hi : (40 : Int) < (m : Int) := by omega
      have HZ2 : Hid (z = 3) := hid (by rw [← HZ.out, sitErr, HOK.out, if_neg (by simp), HM.out, if_pos h40])
      go_wp2
      go_ret
      exact ⟨by rw [HZ2.out]; rfl, hB2⟩
    · have hi : ¬ (40 : Int) < (m : Int) := by omega
      have HZ2 : Hid (z = 0) := hid (by rw [← HZ.out, sitErr, HOK.out, if_neg (by simp), HM.out, if_neg h40])
      go_wp2
      go_ret
      exact ⟨by rw [HZ2.out]; rfl, hB2⟩
  · simp only [Bool.not_eq_true] at hok
    have HZ2 : Hid (z = 1) := hid (by rw [← HZ.out, sitErr, if_pos hok])
    rw [hok]
    clear hok
    go_wp2
    go_ret
    exact ⟨by rw [HZ2.out]; rfl, hB1⟩

end Go.Proofs.Ytgapbaelifcifaa
