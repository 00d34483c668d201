/- Contracts of the reference's Reals, of the law's fault. Contract of Done. -/
import Derived.Test.YtgapbaelifcifaaFD
import Derived.Test.YtgapbaelifcifaaEB
import Derived.Test.YtgapbaelifcifaaCN
namespace Go.Proofs.Ytgapbaelifcifaa
open Go.RowKit

set_option maxRecDepth 100000 in
set_option maxHeartbeats 4000000 in
theorem realsR_any (C : List (Int × Int × Int)) (Z : List Int) (R : List (Int × Int)) (due delay : Int) (ca za a : Option Addr) (cn cc zn zc n cap : Nat) (w : World)
    (hC : C.length = cn) (_ : cn ≤ 5) (hCr : Crew w ca C) (hZ : Z.length = zn) (hzn : zn ≤ 1000000) (hI : Ints w za Z) (hr : ∀ i, i < zn → 0 ≤ Z.getD i 0 ∧ Z.getD i 0 < cn) (hL : R.length = n) (hn : n ≤ 1000000) (hS : Spans w a R) :
    Calls Try.prog 41 #[.agg #[.slice ca cn cc, .int .i64 due, .int .i64 delay], .slice za zn zc, .slice a n cap] w fun e w' =>
      e = .returned (.bool (realsM C Z delay R)) ∧ Below w.heap.size w w' := by
  obtain ⟨z, hz⟩ : ∃ z, realsM C Z delay R = z := ⟨_, rfl⟩
  have HV : Hid (z = (decide (n = zn) && (List.range R.length).all fun i => realOk C Z delay i (R.getD i (0, 0)))) := hid (by rw [← hz, ← hL, ← hZ]; rfl)
  rw [hz]
  have HL := hid hL
  have HC := hid hC
  have HZ := hid hZ
  have HR := hid hr
  clear hL hC hZ hr hz
  by_cases hnt : n = zn
  · subst hnt
    have HV2 : Hid (z = (List.range R.length).all fun i => realOk C Z delay i (R.getD i (0, 0))) := hid (by rw [HV.out, decide_eq_true rfl, Bool.true_and])
    clear HV
    go_enter Try.func41, Try.ntmps41
    go_wp2_with fail
    obtain ⟨W0, hW0⟩ : ∃ W0, W0 = w.alloc (.cells #[.slice ca cn cc, .int .i64 due, .int .i64 delay] 27) := ⟨_, rfl⟩
    have hB0 : Below w.heap.size w W0 := by rw [hW0]; exact (Below.refl _ w).alloc (Nat.le_refl _) _
    have c0 : W0.cell? ⟨w.heap.size, 0, none⟩ = some (.slice ca cn cc) := by rw [hW0]; simp
    have c2 : W0.cell? ⟨w.heap.size, 2, none⟩ = some (.int .i64 delay) := by rw [hW0]; simp
    have z0 : W0.heap.size = w.heap.size + 1 := by rw [hW0]; simp
    rw [← hW0]
    clear hW0
    go_loopw [7] (fun i wr => ∃ k : Nat, k ≤ n ∧ i = .int .i64 k ∧ Hid (∀ j, j < k → realOk C Z delay j (R.getD j (0, 0)) = true) ∧ Below W0.heap.size W0 wr) (fun i _ => n - (intOf i).toNat)
    case atStart => exact ⟨0, Nat.zero_le _, rfl, fun _ h => by omega, Below.refl _ _⟩
    case round =>
      obtain ⟨k, hk, rfl, hj, hB⟩ := hrel
      have hzr := hB.size
      have hBw := hB0.trans (hB.mono (by omega))
      by_cases hlt : k < n
      · obtain ⟨b, off, rfl, e1, e2⟩ := hS k (by rw [HL.out]; exact hlt)
        obtain ⟨x, hx⟩ : ∃ x, R.getD k (0, 0) = x := ⟨_, rfl⟩
        rw [hx] at e1 e2
        obtain ⟨x1, x2⟩ := x
        simp only at e1 e2
        have HX := hid hx
        clear hx
        obtain ⟨bz, oz, rfl, e3⟩ := hI k (by rw [HZ.out]; exact hlt)
        have hr := HR.out k hlt
        obtain ⟨r, hr'⟩ : ∃ r : Nat, Z.getD k 0 = (r : Int) := ⟨(Z.getD k 0).toNat, by omega⟩
        have hV : realOk C Z delay k (x1, x2) = (inB x1 (C.getD r (0, 0, 0)).1 (C.getD r (0, 0, 0)).2.1 && inB x2 0 delay) := by
          unfold realOk
          rw [hr', Int.toNat_natCast]
        rw [hr'] at hr e3
        have hrc : r < cn := by omega
        obtain ⟨bc, oc, rfl, e4, e5, e6⟩ := hCr r (by rw [HC.out]; exact hrc)
        obtain ⟨y, hy⟩ : ∃ y, C.getD r (0, 0, 0) = y := ⟨_, rfl⟩
        rw [hy] at e4 e5 e6 hV
        obtain ⟨lo, h2, rest⟩ := y
        simp only at e4 e5 e6 hV
        have HVV := hid hV
        clear hV hy hr'
        have y0 := cell_grown hB c0
        have y2 := cell_grown hB c2
        have d1 := cell_grown hBw e1
        have d2 := cell_grown hBw e2
        have d3 := cell_grown hBw e3
        have d4 := cell_grown hBw e4
        have d5 := cell_grown hBw e5
        clear e1 e2 e3 e4 e5 e6
        have g0 := lt_of_cell y0
        have g1 := lt_of_cell d1
        have g2 := lt_of_cell d3
        have g3 := lt_of_cell d4
        have hkk : (k : Int) < n := by omega
        have hrr : (r : Int) < cn := by omega
        go_wp2_with fail
        go_region_held3 (fun w' : World => w'.cell? ⟨w.heap.size, 0, none⟩ = some (.slice (some ⟨bc, oc, none⟩) cn cc) ∧ w'.cell? ⟨bz, oz + k, none⟩ = some (.int .i64 (r : Int)) ∧ w'.cell? ⟨bc, oc + r * 3, none⟩ = some (.int .i64 lo) ∧ w'.cell? ⟨bc, oc + r * 3 + 1, none⟩ = some (.int .i64 h2)) (first | exact ⟨y0, d3, d4, d5⟩ | exact ⟨cell_grown (Below.alloc (Below.refl _ _) (Nat.le_refl _) _) y0, cell_grown (Below.alloc (Below.refl _ _) (Nat.le_refl _) _) d3, cell_grown (Below.alloc (Below.refl _ _) (Nat.le_refl _) _) d4, cell_grown (Below.alloc (Below.refl _ _) (Nat.le_refl _) _) d5⟩ | exact ⟨cell_grown (Below.setCell (Below.setCell (Below.alloc (Below.refl _ _) (Nat.le_refl _) _) (by simp) _) (by simp) _) y0, cell_grown (Below.setCell (Below.setCell (Below.alloc (Below.refl _ _) (Nat.le_refl _) _) (by simp) _) (by simp) _) d3, cell_grown (Below.setCell (Below.setCell (Below.alloc (Below.refl _ _) (Nat.le_refl _) _) (by simp) _) (by simp) _) d4, cell_grown (Below.setCell (Below.setCell (Below.alloc (Below.refl _ _) (Nat.le_refl _) _) (by simp) _) (by simp) _) d5⟩) (fail)
        obtain ⟨W1, hW1⟩ : ∃ W1, W1 = (wr.alloc (.cells #[.int .i64 lo, .int .i64 h2] 89)).drew := ⟨_, rfl⟩
        have hB1 : Below wr.heap.size wr W1 := by rw [hW1]; exact ((Below.refl _ _).alloc (Nat.le_refl _) _).drew
        have n0 : W1.cell? ⟨wr.heap.size, 0, none⟩ = some (.int .i64 lo) := by rw [hW1]; simp
        have n1 : W1.cell? ⟨wr.heap.size, 1, none⟩ = some (.int .i64 h2) := by rw [hW1]; simp
        replace y2 := cell_grown hB1 y2
        replace d1 := cell_grown hB1 d1
        replace d2 := cell_grown hB1 d2
        have hBr := hB.trans (hB1.mono hzr)
        rw [← hW1]
        clear hW1 y0 d3 d4 d5 g0 g1 g2 g3 hB1
        have g0 := lt_of_cell y2
        have g1 := lt_of_cell d1
        have g3 := lt_of_cell n0
        cases b1 : inB x1 lo h2 <;> cases b2 : inB x2 0 delay
        all_goals
          have B1 := hid b1
          have B2 := hid b2
          clear b1 b2
          go_wp2_with fail
          go_big_quiet ((go_at_call 27; first | exact Calls.quiet_of_same (v := .bool _) ((in_any _ _ _ _).mono fun e w' h => ⟨by rw [h.1, B1.out], h.2.symm⟩) | exact Calls.quiet_of_same (v := .bool _) ((in_any _ _ _ _).mono fun e w' h => ⟨by rw [h.1, B2.out], h.2.symm⟩)))
          go_wp2_with fail
        · go_ret
          exact ⟨by rw [HV2.out, reals_no (by rw [HL.out]; exact hlt) (by first | (rw [HX.out, HVV.out, B1.out]; rfl) | (rw [HX.out, HVV.out, B1.out, B2.out]; rfl))]; rfl, hB0.trans ((below_drewN hBr nq).mono (by omega))⟩
        · go_ret
          exact ⟨by rw [HV2.out, reals_no (by rw [HL.out]; exact hlt) (by first | (rw [HX.out, HVV.out, B1.out]; rfl) | (rw [HX.out, HVV.out, B1.out, B2.out]; rfl))]; rfl, hB0.trans ((below_drewN hBr nq).mono (by omega))⟩
        · go_ret
          exact ⟨by rw [HV2.out, reals_no (by rw [HL.out]; exact hlt) (by first | (rw [HX.out, HVV.out, B1.out]; rfl) | (rw [HX.out, HVV.out, B1.out, B2.out]; rfl))]; rfl, hB0.trans ((below_drewN hBr nq).mono (by omega))⟩
        · go_roundw
          case rel => exact ⟨k + 1, by omega, by go_num, upto hj.out (by rw [HX.out, HVV.out, B1.out, B2.out]; rfl), below_drewN hBr _⟩
          case measure => simp [intOf]; omega
      · go_wp2
        go_ret
        exact ⟨by rw [HV2.out, reals_yes (fun j h => hj.out j (by rw [HL.out] at h; omega))]; rfl, hBw⟩
  · have hni : ((n : Int) == (zn : Int)) = false := by simp; omega
    have HNT : Hid (decide (n = zn) = false) := hid (decide_eq_false hnt)
    clear hnt
    go_enter Try.func41, Try.ntmps41
    go_wp2
    go_ret
    exact ⟨by rw [HV.out, HNT.out]; rfl, (Below.refl _ _).alloc (Nat.le_refl _) _⟩

/-- What is wrong with a sitting and an office, if anything is. -/
def faultM (len long short due delay : Int) (L : List (Int × Int)) (C : List (Int × Int × Int)) : Int :=
  if sitErr len long short L = 0 then (if offOk due delay C = true then 0 else 1) else sitErr len long short L

set_option maxRecDepth 100000 in
set_option maxHeartbeats 1000000 in
theorem faultL_any (L : List (Int × Int)) (C : List (Int × Int × Int)) (len long short due delay : Int) (n cap m cc : Nat) (a ca : Option Addr) (w : World)
    (hL : L.length = n) (hn : n ≤ 60) (hS : Spans w a L) (hC : C.length = m) (hm : m ≤ maxLen) (hCr : Crew w ca C) :
    Calls Try.prog 31 #[.agg #[.int .i64 len, .slice a n cap, .int .i64 long, .int .i64 short], .agg #[.slice ca m cc, .int .i64 due, .int .i64 delay]] w fun e w' =>
      e = .returned (.int .i64 (faultM len long short due delay L C)) ∧ Below w.heap.size w w' := by
  obtain ⟨z, hz⟩ : ∃ z, faultM len long short due delay L C = z := ⟨_, rfl⟩
  rw [hz]
  have HZ := hid hz
  have HL := hid hL
  have HC := hid hC
  clear hL hC hz
  go_enter Try.func31, Try.ntmps31
  go_wp2_with fail
  obtain ⟨W0, hW0⟩ : ∃ W0, W0 = (w.alloc (.cells #[.int .i64 len, .slice a n cap, .int .i64 long, .int .i64 short] 24)).alloc (.cells #[.slice ca m cc, .int .i64 due, .int .i64 delay] 27) := ⟨_, rfl⟩
  have hB0 : Below w.heap.size w W0 := by rw [hW0]; exact ((Below.refl _ w).alloc (Nat.le_refl _) _).alloc (by simp) _
  have z0 : W0.heap.size = w.heap.size + 2 := by rw [hW0]; simp
  have x0 : W0.cell? ⟨w.heap.size + 1, 0, none⟩ = some (.slice ca m cc) := by rw [hW0]; simp [go_sem]
  have x1 : W0.cell? ⟨w.heap.size + 1, 1, none⟩ = some (.int .i64 due) := by rw [hW0]; simp [go_sem]
  have x2 : W0.cell? ⟨w.heap.size + 1, 2, none⟩ = some (.int .i64 delay) := by rw [hW0]; simp [go_sem]
  rw [← hW0]
  clear hW0
  refine (fault_any L len long short n cap a W0 HL.out hn (hS.grown hB0)).mono ?_
  rintro e w1 ⟨rfl, hb1⟩
  replace x0 := cell_grown hb1 x0
  replace x1 := cell_grown hb1 x1
  replace x2 := cell_grown hb1 x2
  have hC1 := (hCr.grown hB0).grown hb1
  have hB1 := hB0.trans (hb1.mono (by omega))
  clear hb1 hB0
  rcases sitErr_cases len long short L with h0 | h0 | h0
  · have HF : Hid (z = if offOk due delay C = true then 0 else 1) := hid (by rw [← HZ.out]; unfold faultM; rw [if_pos h0])
    rw [h0]
    clear h0
    go_wp2_with fail
    refine (rightOffice_any C due delay m cc ca w1 HC.out hm hC1).mono ?_
    rintro e w2 ⟨rfl, hb2⟩
    have hB2 := hB1.trans (hb2.mono hB1.size)
    cases ho : offOk due delay C
    all_goals
      have HO := hid ho
      clear ho
      go_wp2
      go_ret
      exact ⟨by rw [HF.out, HO.out]; rfl, hB2⟩
  all_goals
    have HF : Hid (z = sitErr len long short L) := hid (by rw [← HZ.out]; unfold faultM; rw [if_neg (by rw [h0]; decide)])
    have H0 := hid h0
    rw [h0]
    clear h0
    go_wp2
    go_ret
    exact ⟨by rw [HF.out, H0.out]; rfl, hB1⟩

end Go.Proofs.Ytgapbaelifcifaa

namespace Go.Proofs.Ytgapbaelifcifaa
open Go.RowKit

theorem serve_fault (len long short due delay : Int) (L : List (Int × Int)) (C : List (Int × Int × Int)) : serveErr len long short due delay L C = faultM len long short due delay L C := by
  unfold serveErr faultM sitErr
  by_cases h1 : sitOk len long short L = false
  · simp [h1]
  · by_cases h2 : 40 < (takesOf len long short L).length
    · simp [h1, h2]
    · by_cases h3 : offOk due delay C = false
      · simp [h1, h2, h3]
      · simp [h1, h2, h3]

/-- What Done says is wrong, if anything is. -/
def doneErr (len long short due delay : Int) (L : List (Int × Int)) (C : List (Int × Int × Int)) (Z : List Int) (R : List (Int × Int)) : Int :=
  if faultM len long short due delay L C = 0 then
    (if staffsM C.length (takesOf len long short L).length Z = true then (if realsM C Z delay R = true then 0 else 1) else 2)
  else faultM len long short due delay L C

def DonePost (len long short due delay : Int) (L : List (Int × Int)) (C : List (Int × Int × Int)) (Z : List Int) (R : List (Int × Int)) (w : World) (e : Ending) (w' : World) : Prop :=
  Below w.heap.size w w' ∧
  ((doneErr len long short due delay L C Z R ≠ 0 ∧ e = .returned (.tuple #[.slice none 0 0, .int .i64 (doneErr len long short due delay L C Z R)])) ∨
   (doneErr len long short due delay L C Z R = 0 ∧ ∃ va vc, e = .returned (.tuple #[.slice va Z.length vc, .int .i64 0]) ∧ Ints w' va (endsM (takesOf len long short L) R)))

theorem fault_zero {len long short due delay : Int} {L : List (Int × Int)} {C : List (Int × Int × Int)} (h1 : sitOk len long short L = true) (h2 : (takesOf len long short L).length ≤ 40) (h3 : offOk due delay C = true) : faultM len long short due delay L C = 0 := by
  rw [← serve_fault, serveErr, if_neg (by simp [h1]), if_neg (by omega), if_neg (by simp [h3])]

set_option maxRecDepth 100000 in
set_option maxHeartbeats 4000000 in
theorem doneT_any (L : List (Int × Int)) (len long short due delay : Int) (C : List (Int × Int × Int)) (Z : List Int) (R : List (Int × Int)) (pn pc cn cc zn zc n cap : Nat) (pa ca za a : Option Addr) (w : World)
    (hL : L.length = pn) (hm : pn ≤ maxLen) (hS : Spans w pa L) (hC : C.length = cn) (hcn : cn ≤ maxLen) (hCr : Crew w ca C) (hZ : Z.length = zn) (hzn : zn ≤ 1000000) (hI : Ints w za Z) (hR : R.length = n) (hn : n ≤ 1000000) (hSR : Spans w a R) :
    Calls Try.prog 39 #[.agg #[.int .i64 len, .slice pa pn pc, .int .i64 long, .int .i64 short], .agg #[.slice ca cn cc, .int .i64 due, .int .i64 delay], .slice za zn zc, .slice a n cap] w (DonePost len long short due delay L C Z R w) := by
  have HL := hid hL
  have HC := hid hC
  have HZ := hid hZ
  have HR := hid hR
  clear hL hC hZ hR
  go_enter Try.func39, Try.ntmps39
  go_wp2_with fail
  obtain ⟨W0, hW0⟩ : ∃ W0, W0 = (w.alloc (.cells #[.int .i64 len, .slice pa pn pc, .int .i64 long, .int .i64 short] 34)).alloc (.cells #[.slice ca cn cc, .int .i64 due, .int .i64 delay] 39) := ⟨_, rfl⟩
  have hB0 : Below w.heap.size w W0 := by rw [hW0]; exact ((Below.refl _ w).alloc (Nat.le_refl _) _).alloc (by simp) _
  rw [← hW0]
  have s3 : W0.heap.size = w.heap.size + 2 := by rw [hW0]; simp
  clear hW0
  refine (serve_any L len long short due delay C pn pc cn cc pa ca _ HL.out hm (hS.grown hB0) HC.out hcn (hCr.grown hB0)).mono ?_
  intro e w' h
  rcases servePost_cases h with ⟨x, hx, hb, rfl, hwhy⟩ | ⟨ta, tc, tn, htn, h1, h2, h3, hb, rfl, hST⟩
  · have HW : Hid (doneErr len long short due delay L C Z R = x) := hid (by
      rw [serve_fault] at hwhy
      unfold doneErr
      rw [if_neg (by omega), hwhy])
    clear h hwhy
    have hB1 := hB0.trans (hb.mono (by omega))
    unfold svZero
    rcases hx with rfl | rfl
    all_goals
      go_wp2
      refine bodyPost_ret (v := .tuple #[.slice none 0 0, .int .i64 (doneErr len long short due delay L C Z R)]) (by rw [HW.out]; simp [results, Try.f39, go_sem]) rfl ⟨hB1.alloc hB1.size _, .inl ⟨by rw [HW.out]; omega, rfl⟩⟩
  · have hB1 := hB0.trans (hb.mono (by omega))
    have sOk := svOk_of (pa := pa) (pn := pn) (pc := pc) (cc := cc) (tc := tc) h1 htn h2 h3 HC.out (hCr.grown hB1) hST
    have hc5 := sOk.c5
    simp only at hc5
    have HF : Hid (doneErr len long short due delay L C Z R = if staffsM cn tn Z = true then (if realsM C Z delay R = true then 0 else 1) else 2) := hid (by
      unfold doneErr
      rw [if_pos (fault_zero h1 (by omega) h3), HC.out, htn])
    obtain ⟨T, hTT⟩ : ∃ T, takesOf len long short L = T := ⟨_, rfl⟩
    have HTT := hid hTT
    rw [hTT] at sOk htn hST
    have HTN := hid htn
    have hCr1 := hCr.grown hB1
    have hI1 := hI.grown hB1
    have hSR1 := hSR.grown hB1
    have sz1 := hB1.size
    clear h h1 h3 htn hCr hS hb hB0 hST hTT
    go_wp2_with fail
    obtain ⟨W1, hW1⟩ : ∃ W1, W1 = w'.alloc (.cells #[.int .i64 len, .slice pa pn pc, .int .i64 long, .int .i64 short, .slice ca cn cc, .int .i64 due, .int .i64 delay, .slice ta tn tc] 106) := ⟨_, rfl⟩
    have hB2 : Below w'.heap.size w' W1 := by rw [hW1]; exact (Below.refl _ _).alloc (Nat.le_refl _) _
    have y0 : W1.cell? ⟨w'.heap.size, 0, none⟩ = some (.int .i64 len) := by rw [hW1]; simp [go_sem]
    have y1 : W1.cell? ⟨w'.heap.size, 1, none⟩ = some (.slice pa pn pc) := by rw [hW1]; simp [go_sem]
    have y2 : W1.cell? ⟨w'.heap.size, 2, none⟩ = some (.int .i64 long) := by rw [hW1]; simp [go_sem]
    have y3 : W1.cell? ⟨w'.heap.size, 3, none⟩ = some (.int .i64 short) := by rw [hW1]; simp [go_sem]
    have y4 : W1.cell? ⟨w'.heap.size, 4, none⟩ = some (.slice ca cn cc) := by rw [hW1]; simp [go_sem]
    have y5 : W1.cell? ⟨w'.heap.size, 5, none⟩ = some (.int .i64 due) := by rw [hW1]; simp [go_sem]
    have y6 : W1.cell? ⟨w'.heap.size, 6, none⟩ = some (.int .i64 delay) := by rw [hW1]; simp [go_sem]
    have y7 : W1.cell? ⟨w'.heap.size, 7, none⟩ = some (.slice ta tn tc) := by rw [hW1]; simp [go_sem]
    have zW : W1.heap.size = w'.heap.size + 1 := by rw [hW1]; simp
    rw [← hW1]
    clear hW1
    have hB3 := hB1.trans (hB2.mono sz1)
    refine (staffs_any Z len long short due delay pa ca ta za pn pc cn cc tn tc zn zc W1 HZ.out (by unfold maxLen; omega) (hI1.grown hB2) hc5 h2).mono ?_
    rintro e w2 ⟨rfl, hb2⟩
    have hB4 := hB3.trans (hb2.mono hB3.size)
    have hBt := hB2.trans (hb2.mono hB2.size)
    cases hst : staffsM cn tn Z
    · have HE : Hid (doneErr len long short due delay L C Z R = 2) := hid (by rw [HF.out, hst]; rfl)
      clear hst
      go_wp2
      exact bodyPost_ret (v := .tuple #[.slice none 0 0, .int .i64 2]) (by simp [results, Try.f39, go_sem]) rfl ⟨hB4, .inl ⟨by rw [HE.out]; decide, by rw [HE.out]⟩⟩
    · have hstp := staffs_at hst
      have HST := hid hstp
      have HF2 : Hid (doneErr len long short due delay L C Z R = if realsM C Z delay R = true then 0 else 1) := hid (by rw [HF.out, hst]; rfl)
      clear hst hstp
      replace y0 := cell_grown hb2 y0
      replace y1 := cell_grown hb2 y1
      replace y2 := cell_grown hb2 y2
      replace y3 := cell_grown hb2 y3
      replace y4 := cell_grown hb2 y4
      replace y5 := cell_grown hb2 y5
      replace y6 := cell_grown hb2 y6
      replace y7 := cell_grown hb2 y7
      go_wp2_with fail
      refine (realistic_any C Z R len long short due delay pa ca ta za a pn pc cn cc tn tc zn zc n cap w2 HC.out hc5 (hCr1.grown hBt) HZ.out hzn (hI1.grown hBt) (fun i hi => HST.out.2 i (by rw [HZ.out]; exact hi)) HR.out hn (hSR1.grown hBt)).mono ?_
      rintro e w3 ⟨rfl, hb3⟩
      have hB5 := hB4.trans (hb3.mono hB4.size)
      replace hBt := hBt.trans (hb3.mono hBt.size)
      replace y0 := cell_grown hb3 y0
      replace y1 := cell_grown hb3 y1
      replace y2 := cell_grown hb3 y2
      replace y3 := cell_grown hb3 y3
      replace y4 := cell_grown hb3 y4
      replace y5 := cell_grown hb3 y5
      replace y6 := cell_grown hb3 y6
      replace y7 := cell_grown hb3 y7
      clear hb2 hb3 hB3 hB2
      cases hre : realsM C Z delay R
      · have HE : Hid (doneErr len long short due delay L C Z R = 1) := hid (by rw [HF2.out, hre]; rfl)
        clear hre
        go_wp2
        exact bodyPost_ret (v := .tuple #[.slice none 0 0, .int .i64 1]) (by simp [results, Try.f39, go_sem]) rfl ⟨hB5, .inl ⟨by rw [HE.out]; decide, by rw [HE.out]⟩⟩
      · have HE : Hid (doneErr len long short due delay L C Z R = 0) := hid (by rw [HF2.out, hre]; rfl)
        have HRE := hid (reals_at hre)
        clear hre
        have hn1 : zn = tn := by rw [← HZ.out]; exact HST.out.1
        have hn2 : n = tn := by rw [← HR.out, HRE.out.1]; exact HST.out.1
        subst hn1 hn2
        obtain ⟨i3, hi3, hi3a, hi3b, hi3c⟩ := info_parts Try.info3
        obtain ⟨w4, hrun, hown0, hgrow⟩ := run_makeSlice_full (P := Try.prog) (w := w3) w3.heap.size 53 3 i3 (.int .i64 0) 1 Try.underlying53 hi3 hi3a hi3b .i64 .i64 n (by omega) (by rw [hi3c]; omega) (by unfold maxLen; omega) (Nat.le_refl _)
        have hb4 : Below w3.heap.size w3 w4 := Below.grown (Below.refl _ _) hgrow (Nat.le_refl _) (fun k e => nomatch e)
        clear hgrow
        obtain ⟨E, hE⟩ : ∃ E, endsM T R = E := ⟨_, rfl⟩
        have HEE := hid hE
        have HEL : Hid (E.length = n) := hid (by rw [← hE, endsM_length, HTN.out])
        clear hE
        obtain ⟨g, hg⟩ : ∃ g, w3.heap.size = g := ⟨_, rfl⟩
        rw [hg] at hown0 hrun
        have HG := hid hg
        clear hg
        go_wp2_with fail
        go_loopw [38] (fun i wr => ∃ k : Nat, k ≤ n ∧ i = .int .i64 k ∧ (∃ ys, wr.ownsRow g 3 1 (.slice (some ⟨g, 0, none⟩) n n) n ys ∧ Hid (ys.take k = flat1 (E.take k))) ∧ Below w3.heap.size w3 wr) (fun i _ => n - (intOf i).toNat)
        case atStart => exact ⟨0, Nat.zero_le _, rfl, ⟨_, hown0, by rw [List.take_zero, List.take_zero]; rfl⟩, hb4⟩
        case round =>
          obtain ⟨k, hk, rfl, ⟨ys, hown, HYS⟩, hB⟩ := hrel
          have hzr := hB.size
          have hBw := hBt.trans (hB.mono hBt.size)
          have q0 := cell_grown hB y0
          have q1 := cell_grown hB y1
          have q2 := cell_grown hB y2
          have q3 := cell_grown hB y3
          have q4 := cell_grown hB y4
          have q5 := cell_grown hB y5
          have q6 := cell_grown hB y6
          have q7 := cell_grown hB y7
          by_cases hlt : k < n
          · obtain ⟨b, off, ha, e1, e2⟩ := (hSR1.grown hBw) k (by rw [HR.out]; exact hlt)
            have hok := HRE.out.2 k (by rw [HR.out]; exact hlt)
            have hzr2 := HST.out.2 k (by rw [HST.out.1]; exact hlt)
            have hcb := sOk.bC (Z.getD k 0).toNat (by simp only; omega)
            have hEk : Hid (E.take (k + 1) = E.take k ++ [endM (T.getD k (0, 0)) (R.getD k (0, 0)).1 (R.getD k (0, 0)).2]) := hid (by rw [take_getD (d := 0) (by rw [HEL.out]; exact hlt), ← HEE.out, endsM_get (by rw [HTN.out]; exact hlt)])
            unfold realOk at hok
            obtain ⟨x, hx⟩ : ∃ x, R.getD k (0, 0) = x := ⟨_, rfl⟩
            rw [hx] at e1 e2 hok hEk
            clear hx
            obtain ⟨sl, dl⟩ := x
            simp only at e1 e2 hEk
            simp only [inB, Bool.and_eq_true, decide_eq_true_eq] at hok
            have hsl : (0 ≤ sl ∧ sl ≤ 20) ∧ 0 ≤ dl ∧ dl ≤ 36000 := by have := sOk.delay; simp only at this; omega
            clear hok hzr2 hcb
            subst ha
            have gb := lt_of_cell e1
            have gw := lt_of_cell q0
            have hkk : (k : Int) < n := by omega
            have hyl : ys.length = n * 1 := hown.1
            have HYL := hid hyl
            clear hyl
            have sOk1 := (sOk.grown hBw).grown ((Below.refl wr.heap.size wr).alloc (Nat.le_refl _) (.cells #[.int .i64 sl, .int .i64 dl] 81))
            go_wp2_with fail
            refine (done_any _ C T k sl dl _ sOk1 hlt hsl.1.1 hsl.1.2 hsl.2.1 hsl.2.2).mono ?_
            obtain ⟨z, hz⟩ : ∃ z, doneM T k sl dl = z := ⟨_, rfl⟩
            have HZE : Hid (endM (T.getD k (0, 0)) sl dl = z) := hid (by rw [← hz]; unfold endM doneM; omega)
            rw [hz]
            rintro e w5 ⟨rfl, hb5⟩
            have hown5 := ownsRow_below (ownsRow_below hown ((Below.refl wr.heap.size wr).alloc (Nat.le_refl _) (.cells #[.int .i64 sl, .int .i64 dl] 81))) hb5
            have hB6 : Below w3.heap.size w3 w5 := (hB.alloc hzr _).trans (hb5.mono (by simp; omega))
            have hcell := hown5.cells (g := g) rfl k (ys.getD k undef) (by rw [List.getD_eq_getElem?_getD, List.getElem?_eq_getElem (by rw [HYL.out]; omega)]; rfl)
            have hadd : (⟨g, 0, none⟩ : Addr).add k = ⟨g, k, none⟩ := by unfold Addr.add; split <;> simp_all
            rw [hadd] at hcell
            have hfr : w5.frozen? ⟨g, k, none⟩ = false := by
              rcases hown5.2 with ⟨e, _⟩ | ⟨g', cap', cur, e, _, hh, _⟩
              · cases e
              · cases e
                exact frozen_of_row _ _ _ _ _ hh
            have hset := ownsRow_setAt hown5 (i := k) (by omega) (.int .i64 z)
            have HNEW : Hid ((ys.set k (.int .i64 z)).take (k + 1) = flat1 (E.take (k + 1))) := hid (by
              rw [hEk.out, HZE.out, List.take_set, take_getD (d := undef) (by rw [HYL.out]; omega), HYS.out]
              have hl : (flat1 (E.take k)).length = k := by simp [flat1, HEL.out]; omega
              rw [List.set_append_right _ _ (by omega), hl, Nat.sub_self]
              simp [flat1])
            have hB7 : Below w3.heap.size w3 (w5.setCell ⟨g, k, none⟩ (.int .i64 z)) := hB6.setCell (p := ⟨g, k, none⟩) (by rw [← HG.out]; exact Nat.le_refl _) _
            have HSET := hid hset
            clear hset hadd hown hown5 hz
            go_wp2
            go_roundw
            case rel => exact ⟨k + 1, by omega, by go_num, ⟨_, HSET.out, HNEW.out⟩, hB7⟩
            case measure => simp [intOf]; omega
          · have hkn : k = n := by omega
            subst hkn
            have hye : ys = flat1 E := by
              have h1 := HYS.out
              rwa [List.take_of_length_le (by have := hown.1; omega), List.take_of_length_le (by rw [HEL.out]; exact Nat.le_refl _)] at h1
            rw [hye] at hown
            have HO := hid (ints_of_owns1 HEL.out hown)
            have hB8 := hB5.trans (hB.mono hB5.size)
            clear hown hye HYS
            go_wp2
            exact bodyPost_ret (v := .tuple #[.slice (some ⟨g, 0, none⟩) k k, .int .i64 0]) (by simp [results, Try.f39, go_sem]) rfl ⟨hB8, .inr ⟨HE.out, some ⟨g, 0, none⟩, k, by rw [HST.out.1], by rw [HTT.out, HEE.out]; exact HO.out⟩⟩

end Go.Proofs.Ytgapbaelifcifaa
