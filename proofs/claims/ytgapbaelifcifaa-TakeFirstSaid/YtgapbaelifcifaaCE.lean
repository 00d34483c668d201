/- Contract of the law's awake. -/
import Derived.Test.YtgapbaelifcifaaCD
namespace Go.Proofs.Ytgapbaelifcifaa
open Go.RowKit

theorem exServe : serveErr 1000 180 60 400 30 [(400, 500)] [(0, 1, 60), (1, 2, 0), (0, 1, 300)] = 0 := by decide +kernel

set_option maxRecDepth 100000 in
set_option maxHeartbeats 1000000 in
theorem awake_any (w : World) : Calls Try.prog 16 #[] w fun e w' => e = .returned (.bool true) ∧ Below w.heap.size w w' := by
  go_enter Try.func16, Try.ntmps16
  go_wp2_with fail
  refine (chamber_any w).mono ?_
  rintro e w1 ⟨pa, pc, ca, cc, rfl, hS, hC, hb1⟩
  have z1 := hb1.size
  go_wp2_with fail
  obtain ⟨W1, hW1⟩ : ∃ W1, W1 = (w1.alloc (.cells #[.int .i64 1000, .slice pa 1 pc, .int .i64 180, .int .i64 60] 34)).alloc (.cells #[.slice ca 3 cc, .int .i64 400, .int .i64 30] 39) := ⟨_, rfl⟩
  have hB1 : Below w1.heap.size w1 W1 := by rw [hW1]; exact ((Below.refl _ _).alloc (Nat.le_refl _) _).alloc (by simp) _
  have c0 : W1.cell? ⟨w1.heap.size, 0, none⟩ = some (.int .i64 1000) := by rw [hW1]; simp [go_sem]
  have c1 : W1.cell? ⟨w1.heap.size, 1, none⟩ = some (.slice pa 1 pc) := by rw [hW1]; simp [go_sem]
  have c2 : W1.cell? ⟨w1.heap.size, 2, none⟩ = some (.int .i64 180) := by rw [hW1]; simp [go_sem]
  have c3 : W1.cell? ⟨w1.heap.size, 3, none⟩ = some (.int .i64 60) := by rw [hW1]; simp [go_sem]
  have d0 : W1.cell? ⟨w1.heap.size + 1, 0, none⟩ = some (.slice ca 3 cc) := by rw [hW1]; simp [go_sem]
  have d1 : W1.cell? ⟨w1.heap.size + 1, 1, none⟩ = some (.int .i64 400) := by rw [hW1]; simp [go_sem]
  have d2 : W1.cell? ⟨w1.heap.size + 1, 2, none⟩ = some (.int .i64 30) := by rw [hW1]; simp [go_sem]
  rw [← hW1]
  have hBw := hb1.trans (hB1.mono z1)
  have zW := hB1.size
  have hS1 := hS.grown hB1
  have hC1 := hC.grown hB1
  clear hW1 hS hC hB1 hb1
  refine (takes_any [(400, 500)] 1000 180 60 1 pc pa W1 rfl (by decide) hS1).mono ?_
  intro e w2 h
  rcases cutPost_cases h with ⟨h1, _⟩ | ⟨_, h2, _⟩ | ⟨ta, tc, n, hn, _, _, hb2, rfl, hT, _⟩
  · rw [exSit] at h1; simp at h1
  · rw [exTakes] at h2; simp at h2
  · rw [exTakes] at hn hT
    simp only [List.length_cons, List.length_nil] at hn
    subst hn
    clear h
    have e0 := cell_grown hb2 c0
    have e1 := cell_grown hb2 c1
    have e2 := cell_grown hb2 c2
    have e3 := cell_grown hb2 c3
    have f0 := cell_grown hb2 d0
    have f1 := cell_grown hb2 d1
    have f2 := cell_grown hb2 d2
    have z2 := hb2.size
    have hBw2 := hBw.trans (hb2.mono (by omega))
    have hS2 := hS1.grown hb2
    have hC2 := hC1.grown hb2
    clear c0 c1 c2 c3 d0 d1 d2 hS1 hC1 hb2 hBw
    go_wp2_with fail
    refine (rota_any [(400, 500)] 1000 180 60 400 30 [(0, 1, 60), (1, 2, 0), (0, 1, 300)] 1 pc 3 cc pa ca w2 rfl (by decide) hS2 rfl (by decide) hC2).mono ?_
    rintro e w3 ⟨hb3, hR⟩
    rw [exServe, exTakes] at hR
    rcases hR with ⟨h0, _⟩ | ⟨_, _, ⟨ra, rcap, R, rfl, hI, hbest⟩ | ⟨_, rc, _, hd⟩⟩
    · exact absurd rfl h0
    · have := exBest R hbest
      subst this
      have hT3 := hT.grown hb3
      have z3 := hb3.size
      have hBw3 := hBw2.trans (hb3.mono (by omega))
      have zz := hBw3.size
      clear hbest hT hb3 hBw2 hC2 hS2
      go_wp2_with fail
      have hA : ∀ o, Below w3.heap.size w3 (w3.alloc o) := fun o => (Below.refl _ _).alloc (Nat.le_refl _) o
      refine (spans_any [(0, 180), (180, 400), (500, 680), (680, 860), (860, 1000)] [(0, 180), (180, 400), (500, 680), (680, 860), (860, 1000)] 5 5 tc 5 ta (some ⟨w3.heap.size, 0, none⟩) _ rfl rfl (by decide) (by decide) (hT3.grown (hA _)) ?_).mono ?_
      · intro i hi
        match i, hi with
        | 0, _ => exact ⟨_, 0, rfl, by simp [go_sem], by simp [go_sem]⟩
        | 1, _ => exact ⟨_, 0, rfl, by simp [go_sem], by simp [go_sem]⟩
        | 2, _ => exact ⟨_, 0, rfl, by simp [go_sem], by simp [go_sem]⟩
        | 3, _ => exact ⟨_, 0, rfl, by simp [go_sem], by simp [go_sem]⟩
        | 4, _ => exact ⟨_, 0, rfl, by simp [go_sem], by simp [go_sem]⟩
      · rintro e w4 ⟨rfl, hb4⟩
        have hI4 := (hI.grown (hA _)).grown hb4
        have z4 := hb4.size
        have hBw4 := (hBw3.trans ((hA _).mono zz)).trans (hb4.mono (by simp; omega))
        have zz4 := hBw4.size
        clear hb4 hI hT3 hA hBw3
        rw [decide_eq_true rfl]
        go_wp2_with fail
        have hA : ∀ o, Below w4.heap.size w4 (w4.alloc o) := fun o => (Below.refl _ _).alloc (Nat.le_refl _) o
        refine (ints_any [1, 0, 2, 1, 0] [1, 0, 2, 1, 0] 5 5 rcap 5 ra (some ⟨w4.heap.size, 0, none⟩) _ rfl rfl (by decide) (by decide) (hI4.grown (hA _)) ?_).mono ?_
        · intro i hi
          match i, hi with
          | 0, _ => exact ⟨_, 0, rfl, by simp [go_sem]⟩
          | 1, _ => exact ⟨_, 0, rfl, by simp [go_sem]⟩
          | 2, _ => exact ⟨_, 0, rfl, by simp [go_sem]⟩
          | 3, _ => exact ⟨_, 0, rfl, by simp [go_sem]⟩
          | 4, _ => exact ⟨_, 0, rfl, by simp [go_sem]⟩
        · rintro e w5 ⟨rfl, hb5⟩
          rw [decide_eq_true rfl]
          go_wp2
          go_ret
          exact ⟨rfl, (hBw4.trans ((hA _).mono zz4)).trans (hb5.mono (by simp; omega))⟩
    · exact (exDead rc hd).elim

end Go.Proofs.Ytgapbaelifcifaa
