/- Contracts of the reference's Reals, of the law's fault. -/
import Derived.Test.YtgapbaelifcifaaFD
import Derived.Test.YtgapbaelifcifaaEB
import Derived.Test.YtgapbaelifcifaaCN
namespace Go.Proofs.Ytgapbaelifcifaa
open Go.RowKit

set_option maxRecDepth 100000 in
set_option maxHeartbeats 4000000 in
theorem realsR_any (C : List (Int × Int × Int)) (Z : List Int) (R : List (Int × Int)) (due delay : Int) (ca za a : Option Addr) (cn cc zn zc n cap : Nat) (w : World)
    (hC : C.length = cn) (_ : cn ≤ 5) (hCr : Crew w ca C) (hZ : Z.length = zn) (hzn : zn ≤ 1000000) (hI : Ints w za Z) (hr : ∀ i, i < zn → 0 ≤ Z.getD i 0 ∧ Z.getD i 0 < cn) (hL : R.length = n) (hn : n ≤ 1000000) (hS : Spans w a R) :
    Calls Try.prog 41 #[.agg #[.slice ca cn cc, .int .i64 due, .int .i64 delay], .slice za zn zc, .slice a n cap] w fun e w' =>
      e = .returned (.bool (realsM C Z delay R)) ∧ Below w.heap.size w w' := by
  obtain ⟨z, hz⟩ : ∃ z, realsM C Z delay R = z := ⟨_, rfl⟩
  have HV : Hid (z = (decide (n = zn) && (List.range R.length).all fun i => realOk C Z delay i (R.getD i (0, 0)))) := hid (by rw [← hz, ← hL, ← hZ]; rfl)
  rw [hz]
  have HL := hid hL
  have HC := hid hC
  have HZ := hid hZ
  have HR := hid hr
  clear hL hC hZ hr hz
  by_cases hnt : n = zn
  · subst hnt
    have HV2 : Hid (z = (List.range R.length).all fun i => realOk C Z delay i (R.getD i (0, 0))) := hid (by rw [HV.out, decide_eq_true rfl, Bool.true_and])
    clear HV
    go_enter Try.func41, Try.ntmps41
    go_wp2_with fail
    obtain ⟨W0, hW0⟩ : ∃ W0, W0 = w.alloc (.cells #[.slice ca cn cc, .int .i64 due, .int .i64 delay] 27) := ⟨_, rfl⟩
    have hB0 : Below w.heap.size w W0 := by rw [hW0]; exact (Below.refl _ w).alloc (Nat.le_refl _) _
    have c0 : W0.cell? ⟨w.heap.size, 0, none⟩ = some (.slice ca cn cc) := by rw [hW0]; simp
    have c2 : W0.cell? ⟨w.heap.size, 2, none⟩ = some (.int .i64 delay) := by rw [hW0]; simp
    have z0 : W0.heap.size = w.heap.size + 1 := by rw [hW0]; simp
    rw [← hW0]
    clear hW0
    go_loopw [7] (fun i wr => ∃ k : Nat, k ≤ n ∧ i = .int .i64 k ∧ Hid (∀ j, j < k → realOk C Z delay j (R.getD j (0, 0)) = true) ∧ Below W0.heap.size W0 wr) (fun i _ => n - (intOf i).toNat)
    case atStart => exact ⟨0, Nat.zero_le _, rfl, fun _ h => by omega, Below.refl _ _⟩
    case round =>
      obtain ⟨k, hk, rfl, hj, hB⟩ := hrel
      have hzr := hB.size
      have hBw := hB0.trans (hB.mono (by omega))
      by_cases hlt : k < n
      · obtain ⟨b, off, rfl, e1, e2⟩ := hS k (by rw [HL.out]; exact hlt)
        obtain ⟨x, hx⟩ : ∃ x, R.getD k (0, 0) = x := ⟨_, rfl⟩
        rw [hx] at e1 e2
        obtain ⟨x1, x2⟩ := x
        simp only at e1 e2
        have HX := hid hx
        clear hx
        obtain ⟨bz, oz, rfl, e3⟩ := hI k (by rw [HZ.out]; exact hlt)
        have hr := HR.out k hlt
        obtain ⟨r, hr'⟩ : ∃ r : Nat, Z.getD k 0 = (r : Int) := ⟨(Z.getD k 0).toNat, by omega⟩
        have hV : realOk C Z delay k (x1, x2) = (inB x1 (C.getD r (0, 0, 0)).1 (C.getD r (0, 0, 0)).2.1 && inB x2 0 delay) := by
          unfold realOk
          rw [hr', Int.toNat_natCast]
        rw [hr'] at hr e3
        have hrc : r < cn := by omega
        obtain ⟨bc, oc, rfl, e4, e5, e6⟩ := hCr r (by rw [HC.out]; exact hrc)
        obtain ⟨y, hy⟩ : ∃ y, C.getD r (0, 0, 0) = y := ⟨_, rfl⟩
        rw [hy] at e4 e5 e6 hV
        obtain ⟨lo, h2, rest⟩ := y
        simp only at e4 e5 e6 hV
        have HVV := hid hV
        clear hV hy hr'
        have y0 := cell_grown hB c0
        have y2 := cell_grown hB c2
        have d1 := cell_grown hBw e1
        have d2 := cell_grown hBw e2
        have d3 := cell_grown hBw e3
        have d4 := cell_grown hBw e4
        have d5 := cell_grown hBw e5
        clear e1 e2 e3 e4 e5 e6
        have g0 := lt_of_cell y0
        have g1 := lt_of_cell d1
        have g2 := lt_of_cell d3
        have g3 := lt_of_cell d4
        have hkk : (k : Int) < n := by omega
        have hrr : (r : Int) < cn := by omega
        go_wp2_with fail
        go_region_held3 (fun w' : World => w'.cell? ⟨w.heap.size, 0, none⟩ = some (.slice (some ⟨bc, oc, none⟩) cn cc) ∧ w'.cell? ⟨bz, oz + k, none⟩ = some (.int .i64 (r : Int)) ∧ w'.cell? ⟨bc, oc + r * 3, none⟩ = some (.int .i64 lo) ∧ w'.cell? ⟨bc, oc + r * 3 + 1, none⟩ = some (.int .i64 h2)) (first | exact ⟨y0, d3, d4, d5⟩ | exact ⟨cell_grown (Below.alloc (Below.refl _ _) (Nat.le_refl _) _) y0, cell_grown (Below.alloc (Below.refl _ _) (Nat.le_refl _) _) d3, cell_grown (Below.alloc (Below.refl _ _) (Nat.le_refl _) _) d4, cell_grown (Below.alloc (Below.refl _ _) (Nat.le_refl _) _) d5⟩ | exact ⟨cell_grown (Below.setCell (Below.setCell (Below.alloc (Below.refl _ _) (Nat.le_refl _) _) (by simp) _) (by simp) _) y0, cell_grown (Below.setCell (Below.setCell (Below.alloc (Below.refl _ _) (Nat.le_refl _) _) (by simp) _) (by simp) _) d3, cell_grown (Below.setCell (Below.setCell (Below.alloc (Below.refl _ _) (Nat.le_refl _) _) (by simp) _) (by simp) _) d4, cell_grown (Below.setCell (Below.setCell (Below.alloc (Below.refl _ _) (Nat.le_refl _) _) (by simp) _) (by simp) _) d5⟩) (fail)
        obtain ⟨W1, hW1⟩ : ∃ W1, W1 = (wr.alloc (.cells #[.int .i64 lo, .int .i64 h2] 89)).drew := ⟨_, rfl⟩
        have hB1 : Below wr.heap.size wr W1 := by rw [hW1]; exact ((Below.refl _ _).alloc (Nat.le_refl _) _).drew
        have n0 : W1.cell? ⟨wr.heap.size, 0, none⟩ = some (.int .i64 lo) := by rw [hW1]; simp
        have n1 : W1.cell? ⟨wr.heap.size, 1, none⟩ = some (.int .i64 h2) := by rw [hW1]; simp
        replace y2 := cell_grown hB1 y2
        replace d1 := cell_grown hB1 d1
        replace d2 := cell_grown hB1 d2
        have hBr := hB.trans (hB1.mono hzr)
        rw [← hW1]
        clear hW1 y0 d3 d4 d5 g0 g1 g2 g3 hB1
        have g0 := lt_of_cell y2
        have g1 := lt_of_cell d1
        have g3 := lt_of_cell n0
        cases b1 : inB x1 lo h2 <;> cases b2 : inB x2 0 delay
        all_goals
          have B1 := hid b1
          have B2 := hid b2
          clear b1 b2
          go_wp2_with fail
          go_big_quiet ((go_at_call 27; first | exact Calls.quiet_of_same (v := .bool _) ((in_any _ _ _ _).mono fun e w' h => ⟨by rw [h.1, B1.out], h.2.symm⟩) | exact Calls.quiet_of_same (v := .bool _) ((in_any _ _ _ _).mono fun e w' h => ⟨by rw [h.1, B2.out], h.2.symm⟩)))
          go_wp2_with fail
        · go_ret
          exact ⟨by rw [HV2.out, reals_no (by rw [HL.out]; exact hlt) (by first | (rw [HX.out, HVV.out, B1.out]; rfl) | (rw [HX.out, HVV.out, B1.out, B2.out]; rfl))]; rfl, hB0.trans ((below_drewN hBr nq).mono (by omega))⟩
        · go_ret
          exact ⟨by rw [HV2.out, reals_no (by rw [HL.out]; exact hlt) (by first | (rw [HX.out, HVV.out, B1.out]; rfl) | (rw [HX.out, HVV.out, B1.out, B2.out]; rfl))]; rfl, hB0.trans ((below_drewN hBr nq).mono (by omega))⟩
        · go_ret
          exact ⟨by rw [HV2.out, reals_no (by rw [HL.out]; exact hlt) (by first | (rw [HX.out, HVV.out, B1.out]; rfl) | (rw [HX.out, HVV.out, B1.out, B2.out]; rfl))]; rfl, hB0.trans ((below_drewN hBr nq).mono (by omega))⟩
        · go_roundw
          case rel => exact ⟨k + 1, by omega, by go_num, upto hj.out (by rw [HX.out, HVV.out, B1.out, B2.out]; rfl), below_drewN hBr _⟩
          case measure => simp [intOf]; omega
      · go_wp2
        go_ret
        exact ⟨by rw [HV2.out, reals_yes (fun j h => hj.out j (by rw [HL.out] at h; omega))]; rfl, hBw⟩
  · have hni : ((n : Int) == (zn : Int)) = false := by simp; omega
    have HNT : Hid (decide (n = zn) = false) := hid (decide_eq_false hnt)
    clear hnt
    go_enter Try.func41, Try.ntmps41
    go_wp2
    go_ret
    exact ⟨by rw [HV.out, HNT.out]; rfl, (Below.refl _ _).alloc (Nat.le_refl _) _⟩

/-- What is wrong with a sitting and an office, if anything is. -/
def faultM (len long short due delay : Int) (L : List (Int × Int)) (C : List (Int × Int × Int)) : Int :=
  if sitErr len long short L = 0 then (if offOk due delay C = true then 0 else 1) else sitErr len long short L

set_option maxRecDepth 100000 in
set_option maxHeartbeats 1000000 in
theorem faultL_any (L : List (Int × Int)) (C : List (Int × Int × Int)) (len long short due delay : Int) (n cap m cc : Nat) (a ca : Option Addr) (w : World)
    (hL : L.length = n) (hn : n ≤ 60) (hS : Spans w a L) (hC : C.length = m) (hm : m ≤ maxLen) (hCr : Crew w ca C) :
    Calls Try.prog 31 #[.agg #[.int .i64 len, .slice a n cap, .int .i64 long, .int .i64 short], .agg #[.slice ca m cc, .int .i64 due, .int .i64 delay]] w fun e w' =>
      e = .returned (.int .i64 (faultM len long short due delay L C)) ∧ Below w.heap.size w w' := by
  obtain ⟨z, hz⟩ : ∃ z, faultM len long short due delay L C = z := ⟨_, rfl⟩
  rw [hz]
  have HZ := hid hz
  have HL := hid hL
  have HC := hid hC
  clear hL hC hz
  go_enter Try.func31, Try.ntmps31
  go_wp2_with fail
  obtain ⟨W0, hW0⟩ : ∃ W0, W0 = (w.alloc (.cells #[.int .i64 len, .slice a n cap, .int .i64 long, .int .i64 short] 24)).alloc (.cells #[.slice ca m cc, .int .i64 due, .int .i64 delay] 27) := ⟨_, rfl⟩
  have hB0 : Below w.heap.size w W0 := by rw [hW0]; exact ((Below.refl _ w).alloc (Nat.le_refl _) _).alloc (by simp) _
  have z0 : W0.heap.size = w.heap.size + 2 := by rw [hW0]; simp
  have x0 : W0.cell? ⟨w.heap.size + 1, 0, none⟩ = some (.slice ca m cc) := by rw [hW0]; simp [go_sem]
  have x1 : W0.cell? ⟨w.heap.size + 1, 1, none⟩ = some (.int .i64 due) := by rw [hW0]; simp [go_sem]
  have x2 : W0.cell? ⟨w.heap.size + 1, 2, none⟩ = some (.int .i64 delay) := by rw [hW0]; simp [go_sem]
  rw [← hW0]
  clear hW0
  refine (fault_any L len long short n cap a W0 HL.out hn (hS.grown hB0)).mono ?_
  rintro e w1 ⟨rfl, hb1⟩
  replace x0 := cell_grown hb1 x0
  replace x1 := cell_grown hb1 x1
  replace x2 := cell_grown hb1 x2
  have hC1 := (hCr.grown hB0).grown hb1
  have hB1 := hB0.trans (hb1.mono (by omega))
  clear hb1 hB0
  rcases sitErr_cases len long short L with h0 | h0 | h0
  · have HF : Hid (z = if offOk due delay C = true then 0 else 1) := hid (by rw [← HZ.out]; unfold faultM; rw [if_pos h0])
    rw [h0]
    clear h0
    go_wp2_with fail
    refine (rightOffice_any C due delay m cc ca w1 HC.out hm hC1).mono ?_
    rintro e w2 ⟨rfl, hb2⟩
    have hB2 := hB1.trans (hb2.mono hB1.size)
    cases ho : offOk due delay C
    all_goals
      have HO := hid ho
      clear ho
      go_wp2
      go_ret
      exact ⟨by rw [HF.out, HO.out]; rfl, hB2⟩
  all_goals
    have HF : Hid (z = sitErr len long short L) := hid (by rw [← HZ.out]; unfold faultM; rw [if_neg (by rw [h0]; decide)])
    have H0 := hid h0
    rw [h0]
    clear h0
    go_wp2
    go_ret
    exact ⟨by rw [HF.out, H0.out]; rfl, hB1⟩

end Go.Proofs.Ytgapbaelifcifaa
