/- Contracts of the reference's RightOffice, of CheckSitting, and of the law's Thin. -/
import Derived.Test.YtgapbaelifcifaaBA
import Derived.Test.YtgapbaelifcifaaCK
import Derived.Test.YtgapbaelifcifaaGA
namespace Go.Proofs.Ytgapbaelifcifaa
open Go.RowKit

theorem repOk_iff (lo hi rest : Int) : repOk (lo, hi, rest) = true ↔ (0 ≤ lo ∧ lo ≤ hi) ∧ hi ≤ 20 ∧ 0 ≤ rest ∧ rest ≤ 36000 := by
  simp [repOk, inB]

set_option maxRecDepth 100000 in
set_option maxHeartbeats 2000000 in
theorem rightOffice_any (C : List (Int × Int × Int)) (due delay : Int) (n cap : Nat) (a : Option Addr) (w : World) (hL : C.length = n) (hn : n ≤ maxLen) (hS : Crew w a C) :
    Calls Try.prog 23 #[.agg #[.slice a n cap, .int .i64 due, .int .i64 delay]] w fun e w' => e = .returned (.bool (offOk due delay C)) ∧ Below w.heap.size w w' := by
  have hz : offOk due delay C = (inB n 1 5 && (inB due 0 36000 && (inB delay 0 36000 && crewOk C))) := by rw [← hL]; rfl
  obtain ⟨z, hzz⟩ : ∃ z, offOk due delay C = z := ⟨_, rfl⟩
  rw [hzz] at hz ⊢
  have HL := hid hL
  have HZ := hid hz
  clear hL hz hzz
  have hn' := hn
  unfold maxLen at hn'
  go_enter Try.func23, Try.ntmps23
  go_wp2_with fail
  obtain ⟨W0, hW0⟩ : ∃ W0, W0 = w.alloc (.cells #[.slice a n cap, .int .i64 due, .int .i64 delay] 27) := ⟨_, rfl⟩
  have hB0 : Below w.heap.size w W0 := by rw [hW0]; exact (Below.refl _ w).alloc (Nat.le_refl _) _
  have c0 : W0.cell? ⟨w.heap.size, 0, none⟩ = some (.slice a n cap) := by rw [hW0]; simp
  have c1 : W0.cell? ⟨w.heap.size, 1, none⟩ = some (.int .i64 due) := by rw [hW0]; simp
  have c2 : W0.cell? ⟨w.heap.size, 2, none⟩ = some (.int .i64 delay) := by rw [hW0]; simp
  have z0 : W0.heap.size = w.heap.size + 1 := by rw [hW0]; simp
  rw [← hW0]
  have hS0 := hS.grown hB0
  clear hW0 hS
  go_loopw [3] (fun i wr => ∃ k : Nat, k ≤ n ∧ i = .int .i64 k ∧ Hid (∀ j, j < k → repOk (C.getD j (0, 0, 0)) = true) ∧ Below W0.heap.size W0 wr) (fun i _ => n - (intOf i).toNat)
  case atStart => exact ⟨0, Nat.zero_le _, rfl, fun _ h => by omega, Below.refl _ _⟩
  case round =>
    obtain ⟨k, hk, rfl, hj, hB⟩ := hrel
    have hzr := hB.size
    replace c0 := cell_grown hB c0
    replace c1 := cell_grown hB c1
    replace c2 := cell_grown hB c2
    replace hS0 := hS0.grown hB
    have hBw := hB0.trans (hB.mono (by omega))
    by_cases hlt : k < n
    · obtain ⟨b, off, lo, h2, rest, hx, rfl, g1, g2, g3⟩ := crew_at hS0 (i := k) (by rw [HL.out]; exact hlt)
      have HX := hid hx
      clear hx
      have gb := lt_of_cell g1
      have gw := lt_of_cell c0
      have hkk : (k : Int) < n := by omega
      by_cases hp : repOk (lo, h2, rest) = true
      · have hp' := (repOk_iff lo h2 rest).1 hp
        have HP := hid hp
        clear hp
        obtain ⟨⟨p1, p2⟩, p3, p4, p5⟩ := hp'
        have hin : inB rest 0 36000 = true := by simp [inB]; omega
        go_wp2_with (go_at_call 27; refine (in_any _ _ _ _).mono ?_; rintro e w' ⟨rfl, rfl⟩; rw [hin])
        go_roundw
        case rel => exact ⟨k + 1, by omega, by go_num, upto hj.out (by rw [HX.out]; exact HP.out), by first | exact hB.alloc hzr _ | exact (hB.alloc hzr _).setCell (by simp; omega) _⟩
        case measure => simp [intOf]; omega
      · have hno : Hid (z = false) := hid (by rw [HZ.out, crewOk_no (by rw [HL.out]; exact hlt) (by rw [HX.out]; simpa using hp)]; simp)
        have hp' : ¬ ((0 ≤ lo ∧ lo ≤ h2) ∧ h2 ≤ 20 ∧ 0 ≤ rest ∧ rest ≤ 36000) := fun h => hp ((repOk_iff lo h2 rest).2 h)
        clear hp
        by_cases p1 : 0 ≤ lo
        · by_cases p2 : lo ≤ h2
          · by_cases p3 : h2 ≤ 20
            · have hin : inB rest 0 36000 = false := by simp [inB]; omega
              clear hp'
              go_wp2_with (go_at_call 27; refine (in_any _ _ _ _).mono ?_; rintro e w' ⟨rfl, rfl⟩; rw [hin])
              go_ret
              exact ⟨by rw [hno.out]; rfl, by first | exact hBw.alloc hBw.size _ | exact (hBw.alloc hBw.size _).setCell (by simp; omega) _⟩
            · clear hp'
              go_wp2_with fail
              go_ret
              exact ⟨by rw [hno.out]; rfl, by first | exact hBw.alloc hBw.size _ | exact (hBw.alloc hBw.size _).setCell (by simp; omega) _⟩
          · clear hp'
            go_wp2_with fail
            go_ret
            exact ⟨by rw [hno.out]; rfl, by first | exact hBw.alloc hBw.size _ | exact (hBw.alloc hBw.size _).setCell (by simp; omega) _⟩
        · clear hp'
          go_wp2_with fail
          go_ret
          exact ⟨by rw [hno.out]; rfl, by first | exact hBw.alloc hBw.size _ | exact (hBw.alloc hBw.size _).setCell (by simp; omega) _⟩
    · have hc : Hid (crewOk C = true) := hid (crewOk_yes (fun j h => hj.out j (by rw [HL.out] at h; omega)))
      clear hj
      cases b1 : inB n 1 5 <;> cases b2 : inB due 0 36000 <;> cases b3 : inB delay 0 36000
      all_goals
        go_wp2_with (go_at_call 27; refine (in_any _ _ _ _).mono ?_; rintro e w' ⟨rfl, rfl⟩; first | rw [b1] | rw [b2] | rw [b3])
        go_ret
        exact ⟨by rw [HZ.out, b1, b2, b3, hc.out]; rfl, hBw⟩

theorem checkSitting_any (L : List (Int × Int)) (len long short : Int) (m cap : Nat) (a : Option Addr) (w : World)
    (hL : L.length = m) (hm : m ≤ maxLen) (hS : Spans w a L) :
    Calls Try.prog 17 #[.agg #[.int .i64 len, .slice a m cap, .int .i64 long, .int .i64 short]] w fun e w' => e = .returned (.int .i64 (sitErr len long short L)) ∧ Below w.heap.size w w' := by
  have HL := hid hL
  clear hL
  obtain ⟨z, hz⟩ : ∃ z, sitErr len long short L = z := ⟨_, rfl⟩
  rw [hz]
  have HZ := hid hz
  clear hz
  go_enter Try.func17, Try.ntmps17
  go_wp2_with fail
  have hB0 : Below w.heap.size w (w.alloc (.cells #[.int .i64 len, .slice a m cap, .int .i64 long, .int .i64 short] 34)) := (Below.refl _ w).alloc (Nat.le_refl _) _
  refine (cut_any L len long short m cap a _ HL.out hm (hS.grown hB0)).mono ?_
  intro e w1 h
  have hB1 : Below w.heap.size w w1 := hB0.trans (h.1.mono (by simp))
  rcases cutPost_cases h with ⟨h1, hb, rfl⟩ | ⟨h1, h2, hb, rfl⟩ | ⟨a', cap', n, hn, h1, h2, hb, rfl, hS', hf'⟩
  · have E0 : Hid (z = 1) := hid (by rw [← HZ.out]; unfold sitErr; rw [if_pos h1])
    clear h1 h hb
    go_wp2
    go_ret
    exact ⟨by rw [E0.out]; rfl, hB1⟩
  · have E0 : Hid (z = 3) := hid (by rw [← HZ.out]; unfold sitErr; rw [if_neg (by rw [h1]; simp), if_pos h2])
    clear h1 h2 h hb
    go_wp2
    go_ret
    exact ⟨by rw [E0.out]; rfl, hB1⟩
  · have E0 : Hid (z = 0) := hid (by rw [← HZ.out]; unfold sitErr; rw [if_neg (by rw [h1]; simp), if_neg (by omega)])
    clear h1 h hb hn h2 hf' hS'
    go_wp2
    go_ret
    exact ⟨by rw [E0.out]; rfl, hB1⟩

theorem thin_any (len long short due delay : Int) (n cap m cc : Nat) (a ca : Option Addr) (w : World) (hn : n ≤ maxLen) (hm : m ≤ maxLen) :
    Calls Try.prog 15 #[.agg #[.int .i64 len, .slice a n cap, .int .i64 long, .int .i64 short], .agg #[.slice ca m cc, .int .i64 due, .int .i64 delay]] w fun e w' => e = .returned (.bool (decide (n ≤ 60) && decide (m ≤ 8))) ∧ Below w.heap.size w w' := by
  unfold maxLen at hn hm
  go_enter Try.func15, Try.ntmps15
  have hB : Below w.heap.size w ((w.alloc (.cells #[.int .i64 len, .slice a n cap, .int .i64 long, .int .i64 short] 24)).alloc (.cells #[.slice ca m cc, .int .i64 due, .int .i64 delay] 27)) := ((Below.refl _ w).alloc (Nat.le_refl _) _).alloc (by simp) _
  by_cases h1 : (n : Int) ≤ 60 <;> by_cases h2 : (m : Int) ≤ 8
  all_goals
    go_wp2
    go_ret
    exact ⟨by first | (rw [show (decide (n ≤ 60) && decide (m ≤ 8)) = true from by simp; omega]; rfl) | (rw [show (decide (n ≤ 60) && decide (m ≤ 8)) = false from by simp; omega]; rfl), hB⟩

end Go.Proofs.Ytgapbaelifcifaa
