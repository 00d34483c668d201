/- Contract of Done. -/
import Derived.Test.YtgapbaelifcifaaFC
import Derived.Test.YtgapbaelifcifaaFE
namespace Go.Proofs.Ytgapbaelifcifaa
open Go.RowKit

theorem serve_fault (len long short due delay : Int) (L : List (Int × Int)) (C : List (Int × Int × Int)) : serveErr len long short due delay L C = faultM len long short due delay L C := by
  unfold serveErr faultM sitErr
  by_cases h1 : sitOk len long short L = false
  · simp [h1]
  · by_cases h2 : 40 < (takesOf len long short L).length
    · simp [h1, h2]
    · by_cases h3 : offOk due delay C = false
      · simp [h1, h2, h3]
      · simp [h1, h2, h3]

/-- What Done says is wrong, if anything is. -/
def doneErr (len long short due delay : Int) (L : List (Int × Int)) (C : List (Int × Int × Int)) (Z : List Int) (R : List (Int × Int)) : Int :=
  if faultM len long short due delay L C = 0 then
    (if staffsM C.length (takesOf len long short L).length Z = true then (if realsM C Z delay R = true then 0 else 1) else 2)
  else faultM len long short due delay L C

def DonePost (len long short due delay : Int) (L : List (Int × Int)) (C : List (Int × Int × Int)) (Z : List Int) (R : List (Int × Int)) (w : World) (e : Ending) (w' : World) : Prop :=
  Below w.heap.size w w' ∧
  ((doneErr len long short due delay L C Z R ≠ 0 ∧ e = .returned (.tuple #[.slice none 0 0, .int .i64 (doneErr len long short due delay L C Z R)])) ∨
   (doneErr len long short due delay L C Z R = 0 ∧ ∃ va vc, e = .returned (.tuple #[.slice va Z.length vc, .int .i64 0]) ∧ Ints w' va (endsM (takesOf len long short L) R)))

theorem fault_zero {len long short due delay : Int} {L : List (Int × Int)} {C : List (Int × Int × Int)} (h1 : sitOk len long short L = true) (h2 : (takesOf len long short L).length ≤ 40) (h3 : offOk due delay C = true) : faultM len long short due delay L C = 0 := by
  rw [← serve_fault, serveErr, if_neg (by simp [h1]), if_neg (by omega), if_neg (by simp [h3])]

set_option maxRecDepth 100000 in
set_option maxHeartbeats 4000000 in
theorem doneT_any (L : List (Int × Int)) (len long short due delay : Int) (C : List (Int × Int × Int)) (Z : List Int) (R : List (Int × Int)) (pn pc cn cc zn zc n cap : Nat) (pa ca za a : Option Addr) (w : World)
    (hL : L.length = pn) (hm : pn ≤ maxLen) (hS : Spans w pa L) (hC : C.length = cn) (hcn : cn ≤ maxLen) (hCr : Crew w ca C) (hZ : Z.length = zn) (hzn : zn ≤ 1000000) (hI : Ints w za Z) (hR : R.length = n) (hn : n ≤ 1000000) (hSR : Spans w a R) :
    Calls Try.prog 39 #[.agg #[.int .i64 len, .slice pa pn pc, .int .i64 long, .int .i64 short], .agg #[.slice ca cn cc, .int .i64 due, .int .i64 delay], .slice za zn zc, .slice a n cap] w (DonePost len long short due delay L C Z R w) := by
  have HL := hid hL
  have HC := hid hC
  have HZ := hid hZ
  have HR := hid hR
  clear hL hC hZ hR
  go_enter Try.func39, Try.ntmps39
  go_wp2_with fail
  obtain ⟨W0, hW0⟩ : ∃ W0, W0 = (w.alloc (.cells #[.int .i64 len, .slice pa pn pc, .int .i64 long, .int .i64 short] 34)).alloc (.cells #[.slice ca cn cc, .int .i64 due, .int .i64 delay] 39) := ⟨_, rfl⟩
  have hB0 : Below w.heap.size w W0 := by rw [hW0]; exact ((Below.refl _ w).alloc (Nat.le_refl _) _).alloc (by simp) _
  rw [← hW0]
  have s3 : W0.heap.size = w.heap.size + 2 := by rw [hW0]; simp
  clear hW0
  refine (serve_any L len long short due delay C pn pc cn cc pa ca _ HL.out hm (hS.grown hB0) HC.out hcn (hCr.grown hB0)).mono ?_
  intro e w' h
  rcases servePost_cases h with ⟨x, hx, hb, rfl, hwhy⟩ | ⟨ta, tc, tn, htn, h1, h2, h3, hb, rfl, hST⟩
  · have HW : Hid (doneErr len long short due delay L C Z R = x) := hid (by
      rw [serve_fault] at hwhy
      unfold doneErr
      rw [if_neg (by omega), hwhy])
    clear h hwhy
    have hB1 := hB0.trans (hb.mono (by omega))
    unfold svZero
    rcases hx with rfl | rfl
    all_goals
      go_wp2
      refine bodyPost_ret (v := .tuple #[.slice none 0 0, .int .i64 (doneErr len long short due delay L C Z R)]) (by rw [HW.out]; simp [results, Try.f39, go_sem]) rfl ⟨hB1.alloc hB1.size _, .inl ⟨by rw [HW.out]; omega, rfl⟩⟩
  · have hB1 := hB0.trans (hb.mono (by omega))
    have sOk := svOk_of (pa := pa) (pn := pn) (pc := pc) (cc := cc) (tc := tc) h1 htn h2 h3 HC.out (hCr.grown hB1) hST
    have hc5 := sOk.c5
    simp only at hc5
    have HF : Hid (doneErr len long short due delay L C Z R = if staffsM cn tn Z = true then (if realsM C Z delay R = true then 0 else 1) else 2) := hid (by
      unfold doneErr
      rw [if_pos (fault_zero h1 (by omega) h3), HC.out, htn])
    obtain ⟨T, hTT⟩ : ∃ T, takesOf len long short L = T := ⟨_, rfl⟩
    have HTT := hid hTT
    rw [hTT] at sOk htn hST
    have HTN := hid htn
    have hCr1 := hCr.grown hB1
    have hI1 := hI.grown hB1
    have hSR1 := hSR.grown hB1
    have sz1 := hB1.size
    clear h h1 h3 htn hCr hS hb hB0 hST hTT
    go_wp2_with fail
    obtain ⟨W1, hW1⟩ : ∃ W1, W1 = w'.alloc (.cells #[.int .i64 len, .slice pa pn pc, .int .i64 long, .int .i64 short, .slice ca cn cc, .int .i64 due, .int .i64 delay, .slice ta tn tc] 106) := ⟨_, rfl⟩
    have hB2 : Below w'.heap.size w' W1 := by rw [hW1]; exact (Below.refl _ _).alloc (Nat.le_refl _) _
    have y0 : W1.cell? ⟨w'.heap.size, 0, none⟩ = some (.int .i64 len) := by rw [hW1]; simp [go_sem]
    have y1 : W1.cell? ⟨w'.heap.size, 1, none⟩ = some (.slice pa pn pc) := by rw [hW1]; simp [go_sem]
    have y2 : W1.cell? ⟨w'.heap.size, 2, none⟩ = some (.int .i64 long) := by rw [hW1]; simp [go_sem]
    have y3 : W1.cell? ⟨w'.heap.size, 3, none⟩ = some (.int .i64 short) := by rw [hW1]; simp [go_sem]
    have y4 : W1.cell? ⟨w'.heap.size, 4, none⟩ = some (.slice ca cn cc) := by rw [hW1]; simp [go_sem]
    have y5 : W1.cell? ⟨w'.heap.size, 5, none⟩ = some (.int .i64 due) := by rw [hW1]; simp [go_sem]
    have y6 : W1.cell? ⟨w'.heap.size, 6, none⟩ = some (.int .i64 delay) := by rw [hW1]; simp [go_sem]
    have y7 : W1.cell? ⟨w'.heap.size, 7, none⟩ = some (.slice ta tn tc) := by rw [hW1]; simp [go_sem]
    have zW : W1.heap.size = w'.heap.size + 1 := by rw [hW1]; simp
    rw [← hW1]
    clear hW1
    have hB3 := hB1.trans (hB2.mono sz1)
    refine (staffs_any Z len long short due delay pa ca ta za pn pc cn cc tn tc zn zc W1 HZ.out (by unfold maxLen; omega) (hI1.grown hB2) hc5 h2).mono ?_
    rintro e w2 ⟨rfl, hb2⟩
    have hB4 := hB3.trans (hb2.mono hB3.size)
    have hBt := hB2.trans (hb2.mono hB2.size)
    cases hst : staffsM cn tn Z
    · have HE : Hid (doneErr len long short due delay L C Z R = 2) := hid (by rw [HF.out, hst]; rfl)
      clear hst
      go_wp2
      exact bodyPost_ret (v := .tuple #[.slice none 0 0, .int .i64 2]) (by simp [results, Try.f39, go_sem]) rfl ⟨hB4, .inl ⟨by rw [HE.out]; decide, by rw [HE.out]⟩⟩
    · have hstp := staffs_at hst
      have HST := hid hstp
      have HF2 : Hid (doneErr len long short due delay L C Z R = if realsM C Z delay R = true then 0 else 1) := hid (by rw [HF.out, hst]; rfl)
      clear hst hstp
      replace y0 := cell_grown hb2 y0
      replace y1 := cell_grown hb2 y1
      replace y2 := cell_grown hb2 y2
      replace y3 := cell_grown hb2 y3
      replace y4 := cell_grown hb2 y4
      replace y5 := cell_grown hb2 y5
      replace y6 := cell_grown hb2 y6
      replace y7 := cell_grown hb2 y7
      go_wp2_with fail
      refine (realistic_any C Z R len long short due delay pa ca ta za a pn pc cn cc tn tc zn zc n cap w2 HC.out hc5 (hCr1.grown hBt) HZ.out hzn (hI1.grown hBt) (fun i hi => HST.out.2 i (by rw [HZ.out]; exact hi)) HR.out hn (hSR1.grown hBt)).mono ?_
      rintro e w3 ⟨rfl, hb3⟩
      have hB5 := hB4.trans (hb3.mono hB4.size)
      replace hBt := hBt.trans (hb3.mono hBt.size)
      replace y0 := cell_grown hb3 y0
      replace y1 := cell_grown hb3 y1
      replace y2 := cell_grown hb3 y2
      replace y3 := cell_grown hb3 y3
      replace y4 := cell_grown hb3 y4
      replace y5 := cell_grown hb3 y5
      replace y6 := cell_grown hb3 y6
      replace y7 := cell_grown hb3 y7
      clear hb2 hb3 hB3 hB2
      cases hre : realsM C Z delay R
      · have HE : Hid (doneErr len long short due delay L C Z R = 1) := hid (by rw [HF2.out, hre]; rfl)
        clear hre
        go_wp2
        exact bodyPost_ret (v := .tuple #[.slice none 0 0, .int .i64 1]) (by simp [results, Try.f39, go_sem]) rfl ⟨hB5, .inl ⟨by rw [HE.out]; decide, by rw [HE.out]⟩⟩
      · have HE : Hid (doneErr len long short due delay L C Z R = 0) := hid (by rw [HF2.out, hre]; rfl)
        have HRE := hid (reals_at hre)
        clear hre
        have hn1 : zn = tn := by rw [← HZ.out]; exact HST.out.1
        have hn2 : n = tn := by rw [← HR.out, HRE.out.1]; exact HST.out.1
        subst hn1 hn2
        obtain ⟨i3, hi3, hi3a, hi3b, hi3c⟩ := info_parts Try.info3
        obtain ⟨w4, hrun, hown0, hgrow⟩ := run_makeSlice_full (P := Try.prog) (w := w3) w3.heap.size 53 3 i3 (.int .i64 0) 1 Try.underlying53 hi3 hi3a hi3b .i64 .i64 n (by omega) (by rw [hi3c]; omega) (by unfold maxLen; omega) (Nat.le_refl _)
        have hb4 : Below w3.heap.size w3 w4 := Below.grown (Below.refl _ _) hgrow (Nat.le_refl _) (fun k e => nomatch e)
        clear hgrow
        obtain ⟨E, hE⟩ : ∃ E, endsM T R = E := ⟨_, rfl⟩
        have HEE := hid hE
        have HEL : Hid (E.length = n) := hid (by rw [← hE, endsM_length, HTN.out])
        clear hE
        obtain ⟨g, hg⟩ : ∃ g, w3.heap.size = g := ⟨_, rfl⟩
        rw [hg] at hown0 hrun
        have HG := hid hg
        clear hg
        go_wp2_with fail
        go_loopw [38] (fun i wr => ∃ k : Nat, k ≤ n ∧ i = .int .i64 k ∧ (∃ ys, wr.ownsRow g 3 1 (.slice (some ⟨g, 0, none⟩) n n) n ys ∧ Hid (ys.take k = flat1 (E.take k))) ∧ Below w3.heap.size w3 wr) (fun i _ => n - (intOf i).toNat)
        case atStart => exact ⟨0, Nat.zero_le _, rfl, ⟨_, hown0, by rw [List.take_zero, List.take_zero]; rfl⟩, hb4⟩
        case round =>
          obtain ⟨k, hk, rfl, ⟨ys, hown, HYS⟩, hB⟩ := hrel
          have hzr := hB.size
          have hBw := hBt.trans (hB.mono hBt.size)
          have q0 := cell_grown hB y0
          have q1 := cell_grown hB y1
          have q2 := cell_grown hB y2
          have q3 := cell_grown hB y3
          have q4 := cell_grown hB y4
          have q5 := cell_grown hB y5
          have q6 := cell_grown hB y6
          have q7 := cell_grown hB y7
          by_cases hlt : k < n
          · obtain ⟨b, off, ha, e1, e2⟩ := (hSR1.grown hBw) k (by rw [HR.out]; exact hlt)
            have hok := HRE.out.2 k (by rw [HR.out]; exact hlt)
            have hzr2 := HST.out.2 k (by rw [HST.out.1]; exact hlt)
            have hcb := sOk.bC (Z.getD k 0).toNat (by simp only; omega)
            have hEk : Hid (E.take (k + 1) = E.take k ++ [endM (T.getD k (0, 0)) (R.getD k (0, 0)).1 (R.getD k (0, 0)).2]) := hid (by rw [take_getD (d := 0) (by rw [HEL.out]; exact hlt), ← HEE.out, endsM_get (by rw [HTN.out]; exact hlt)])
            unfold realOk at hok
            obtain ⟨x, hx⟩ : ∃ x, R.getD k (0, 0) = x := ⟨_, rfl⟩
            rw [hx] at e1 e2 hok hEk
            clear hx
            obtain ⟨sl, dl⟩ := x
            simp only at e1 e2 hEk
            simp only [inB, Bool.and_eq_true, decide_eq_true_eq] at hok
            have hsl : (0 ≤ sl ∧ sl ≤ 20) ∧ 0 ≤ dl ∧ dl ≤ 36000 := by have := sOk.delay; simp only at this; omega
            clear hok hzr2 hcb
            subst ha
            have gb := lt_of_cell e1
            have gw := lt_of_cell q0
            have hkk : (k : Int) < n := by omega
            have hyl : ys.length = n * 1 := hown.1
            have HYL := hid hyl
            clear hyl
            have sOk1 := (sOk.grown hBw).grown ((Below.refl wr.heap.size wr).alloc (Nat.le_refl _) (.cells #[.int .i64 sl, .int .i64 dl] 81))
            go_wp2_with fail
            refine (done_any _ C T k sl dl _ sOk1 hlt hsl.1.1 hsl.1.2 hsl.2.1 hsl.2.2).mono ?_
            obtain ⟨z, hz⟩ : ∃ z, doneM T k sl dl = z := ⟨_, rfl⟩
            have HZE : Hid (endM (T.getD k (0, 0)) sl dl = z) := hid (by rw [← hz]; unfold endM doneM; omega)
            rw [hz]
            rintro e w5 ⟨rfl, hb5⟩
            have hown5 := ownsRow_below (ownsRow_below hown ((Below.refl wr.heap.size wr).alloc (Nat.le_refl _) (.cells #[.int .i64 sl, .int .i64 dl] 81))) hb5
            have hB6 : Below w3.heap.size w3 w5 := (hB.alloc hzr _).trans (hb5.mono (by simp; omega))
            have hcell := hown5.cells (g := g) rfl k (ys.getD k undef) (by rw [List.getD_eq_getElem?_getD, List.getElem?_eq_getElem (by rw [HYL.out]; omega)]; rfl)
            have hadd : (⟨g, 0, none⟩ : Addr).add k = ⟨g, k, none⟩ := by unfold Addr.add; split <;> simp_all
            rw [hadd] at hcell
            have hfr : w5.frozen? ⟨g, k, none⟩ = false := by
              rcases hown5.2 with ⟨e, _⟩ | ⟨g', cap', cur, e, _, hh, _⟩
              · cases e
              · cases e
                exact frozen_of_row _ _ _ _ _ hh
            have hset := ownsRow_setAt hown5 (i := k) (by omega) (.int .i64 z)
            have HNEW : Hid ((ys.set k (.int .i64 z)).take (k + 1) = flat1 (E.take (k + 1))) := hid (by
              rw [hEk.out, HZE.out, List.take_set, take_getD (d := undef) (by rw [HYL.out]; omega), HYS.out]
              have hl : (flat1 (E.take k)).length = k := by simp [flat1, HEL.out]; omega
              rw [List.set_append_right _ _ (by omega), hl, Nat.sub_self]
              simp [flat1])
            have hB7 : Below w3.heap.size w3 (w5.setCell ⟨g, k, none⟩ (.int .i64 z)) := hB6.setCell (p := ⟨g, k, none⟩) (by rw [← HG.out]; exact Nat.le_refl _) _
            have HSET := hid hset
            clear hset hadd hown hown5 hz
            go_wp2
            go_roundw
            case rel => exact ⟨k + 1, by omega, by go_num, ⟨_, HSET.out, HNEW.out⟩, hB7⟩
            case measure => simp [intOf]; omega
          · have hkn : k = n := by omega
            subst hkn
            have hye : ys = flat1 E := by
              have h1 := HYS.out
              rwa [List.take_of_length_le (by have := hown.1; omega), List.take_of_length_le (by rw [HEL.out]; exact Nat.le_refl _)] at h1
            rw [hye] at hown
            have HO := hid (ints_of_owns1 HEL.out hown)
            have hB8 := hB5.trans (hB.mono hB5.size)
            clear hown hye HYS
            go_wp2
            exact bodyPost_ret (v := .tuple #[.slice (some ⟨g, 0, none⟩) k k, .int .i64 0]) (by simp [results, Try.f39, go_sem]) rfl ⟨hB8, .inr ⟨HE.out, some ⟨g, 0, none⟩, k, by rw [HST.out.1], by rw [HTT.out, HEE.out]; exact HO.out⟩⟩

end Go.Proofs.Ytgapbaelifcifaa
