/- The law TakeProves: its walk. -/
import Derived.Test.YtgapbaelifcifaaGB
namespace Go.Proofs.Ytgapbaelifcifaa
open Go.RowKit

set_option maxRecDepth 100000 in
set_option maxHeartbeats 40000000 in
theorem takeProves_any (L : List (Int × Int)) (len long short : Int) (n cap : Nat) (a : Option Addr) (C : List (Int × Int × Int)) (due delay : Int) (m cc : Nat) (ca : Option Addr) (Z : List Int) (zn zc : Nat) (za : Option Addr) (own : Bool) (at_ to_ : Int) (w : World)
    (hL : L.length = n) (hn : n ≤ maxLen) (hS : Spans w a L) (hC : C.length = m) (hm : m ≤ maxLen) (hCr : Crew w ca C) (hZ : Z.length = zn) (hzn : zn ≤ maxLen) (hI : Ints w za Z) (hza : za = none → zc = 0) (hzc : zn ≤ zc) (hat : 0 ≤ at_ ∧ at_ ≤ 255) (hto : 0 ≤ to_ ∧ to_ ≤ 255) :
    Calls Try.prog 5 #[.agg #[.int .i64 len, .slice a n cap, .int .i64 long, .int .i64 short], .agg #[.slice ca m cc, .int .i64 due, .int .i64 delay], .slice za zn zc, .bool own, .int .u8 at_, .int .u8 to_] w fun e w' => e = .returned (.bool true) ∧ Below w.heap.size w w' := by
  have hn' := hn
  have hm' := hm
  have hz' := hzn
  unfold maxLen at hn' hm' hz'
  have HL := hid hL
  have HC := hid hC
  have HZ := hid hZ
  have HZA := hid hza
  have HCAP := hid hzc
  clear hL hC hZ hza hzc
  go_enter Try.func5, Try.ntmps5
  go_wp2_with fail
  obtain ⟨W0, hW0⟩ : ∃ W0, W0 = (w.alloc (.cells #[.int .i64 len, .slice a n cap, .int .i64 long, .int .i64 short] 24)).alloc (.cells #[.slice ca m cc, .int .i64 due, .int .i64 delay] 27) := ⟨_, rfl⟩
  have hB0 : Below w.heap.size w W0 := by rw [hW0]; exact ((Below.refl _ w).alloc (Nat.le_refl _) _).alloc (by simp) _
  have z0 : W0.heap.size = w.heap.size + 2 := by rw [hW0]; simp
  have y0 : W0.cell? ⟨w.heap.size, 0, none⟩ = some (.int .i64 len) := by rw [hW0]; simp [go_sem]
  have y1 : W0.cell? ⟨w.heap.size, 1, none⟩ = some (.slice a n cap) := by rw [hW0]; simp [go_sem]
  have y2 : W0.cell? ⟨w.heap.size, 2, none⟩ = some (.int .i64 long) := by rw [hW0]; simp [go_sem]
  have y3 : W0.cell? ⟨w.heap.size, 3, none⟩ = some (.int .i64 short) := by rw [hW0]; simp [go_sem]
  have x0 : W0.cell? ⟨w.heap.size + 1, 0, none⟩ = some (.slice ca m cc) := by rw [hW0]; simp [go_sem]
  have x1 : W0.cell? ⟨w.heap.size + 1, 1, none⟩ = some (.int .i64 due) := by rw [hW0]; simp [go_sem]
  have x2 : W0.cell? ⟨w.heap.size + 1, 2, none⟩ = some (.int .i64 delay) := by rw [hW0]; simp [go_sem]
  rw [← hW0]
  clear hW0
  have hS0 := hS.grown hB0
  have hC0 := hCr.grown hB0
  have hI0 := hI.grown hB0
  refine (thin_any len long short due delay n cap m cc a ca W0 hn hm).mono ?_
  obtain ⟨th, hth⟩ : ∃ b, (decide (n ≤ 60) && decide (m ≤ 8)) = b := ⟨_, rfl⟩
  rw [hth]
  rintro e w1 ⟨rfl, hb1⟩
  replace y0 := cell_grown hb1 y0
  replace y1 := cell_grown hb1 y1
  replace y2 := cell_grown hb1 y2
  replace y3 := cell_grown hb1 y3
  replace x0 := cell_grown hb1 x0
  replace x1 := cell_grown hb1 x1
  replace x2 := cell_grown hb1 x2
  replace hS0 := hS0.grown hb1
  replace hC0 := hC0.grown hb1
  replace hI0 := hI0.grown hb1
  have HB := hid (hB0.trans (hb1.mono (by omega)))
  clear hb1 hB0 hS hCr hI
  cases th
  · go_wp2_with fail
    refine (awake_any w1).mono ?_
    rintro e w' ⟨rfl, hb⟩
    go_wp2
    go_ret
    exact ⟨rfl, HB.out.trans (hb.mono HB.out.size)⟩
  · have hth' : n ≤ 60 ∧ m ≤ 8 := by simpa using hth
    clear hth
    obtain ⟨hn60, hm8⟩ := hth'
    by_cases hz45 : 45 < zn
    · have hzi : (45 : Int) < (zn : Int) := by omega
      go_wp2_with fail
      refine (awake_any w1).mono ?_
      rintro e w' ⟨rfl, hb⟩
      go_wp2
      go_ret
      exact ⟨rfl, HB.out.trans (hb.mono HB.out.size)⟩
    have hzi : ¬ (45 : Int) < (zn : Int) := by omega
    obtain ⟨fv, hfv⟩ : ∃ f, faultM len long short due delay L C = f := ⟨_, rfl⟩
    have HFV := hid hfv
    go_wp2_with fail
    refine (faultL_any L C len long short due delay n cap m cc a ca w1 HL.out hn60 hS0 HC.out hm hC0).mono ?_
    rw [hfv]
    rintro e w7 ⟨rfl, hb7⟩
    clear hfv
    replace y0 := cell_grown hb7 y0
    replace y1 := cell_grown hb7 y1
    replace y2 := cell_grown hb7 y2
    replace y3 := cell_grown hb7 y3
    replace x0 := cell_grown hb7 x0
    replace x1 := cell_grown hb7 x1
    replace x2 := cell_grown hb7 x2
    replace hS0 := hS0.grown hb7
    replace hC0 := hC0.grown hb7
    replace HB := hid (HB.out.trans (hb7.mono HB.out.size))
    replace hI0 := hI0.grown hb7
    clear hb7
    by_cases hf0 : fv = 0
    · subst hf0
      obtain ⟨hs0, ho0⟩ := fault_ok HFV.out
      obtain ⟨hok, h40⟩ := sitErr_zero hs0
      have HO := hid ho0
      have HOK := hid hok
      obtain ⟨ho1, hdueb, hdelb, -⟩ := offOk_parts ho0
      have hc5 : m ≤ 5 := by rw [← HC.out]; exact ho1.2
      have hm1 : 1 ≤ m := by rw [← HC.out]; exact ho1.1
      have HBC : Hid (∀ i, i < m → 0 ≤ (C.getD i (0, 0, 0)).1 ∧ (C.getD i (0, 0, 0)).1 ≤ (C.getD i (0, 0, 0)).2.1 ∧ (C.getD i (0, 0, 0)).2.1 ≤ 20 ∧ 0 ≤ (C.getD i (0, 0, 0)).2.2 ∧ (C.getD i (0, 0, 0)).2.2 ≤ 36000) := hid (fun i hi => by
        have := crewOk_at (offOk_parts ho0).2.2.2 (i := i) (by rw [HC.out]; exact hi)
        generalize C.getD i (0, 0, 0) = x at this ⊢
        have h3' : (0 ≤ x.1 ∧ x.1 ≤ x.2.1) ∧ x.2.1 ≤ 20 ∧ 0 ≤ x.2.2 ∧ x.2.2 ≤ 36000 := by simpa [repOk, inB] using this
        omega)
      obtain ⟨T, hTT⟩ : ∃ T, takesOf len long short L = T := ⟨_, rfl⟩
      obtain ⟨q, hq⟩ : ∃ q, T.length = q := ⟨_, rfl⟩
      have HTT := hid hTT
      have HQ := hid hq
      rw [hTT, hq] at h40
      clear hs0 ho0 hok hTT hq ho1
      cases own
      · go_wp2_with fail
        refine (takesR_all L len long short n cap a w7 HL.out hn60 hS0 HOK.out).mono ?_
        rw [HTT.out, HQ.out]
        rintro e w8 ⟨rt, rtc, rfl, _, hb8, hRT⟩
        replace y0 := cell_grown hb8 y0
        replace y1 := cell_grown hb8 y1
        replace y2 := cell_grown hb8 y2
        replace y3 := cell_grown hb8 y3
        replace x0 := cell_grown hb8 x0
        replace x1 := cell_grown hb8 x1
        replace x2 := cell_grown hb8 x2
        replace hS0 := hS0.grown hb8
        replace hC0 := hC0.grown hb8
        replace HB := hid (HB.out.trans (hb8.mono HB.out.size))
        replace hI0 := hI0.grown hb8
        clear hb8
        go_wp2_with fail
        refine (listed_any Z due delay ca rt za m cc q rtc zn zc w8 HZ.out (by omega) hI0 (by omega) (by omega)).mono ?_
        rintro e w9 ⟨rfl, hb9⟩
        replace y0 := cell_grown hb9 y0
        replace y1 := cell_grown hb9 y1
        replace y2 := cell_grown hb9 y2
        replace y3 := cell_grown hb9 y3
        replace x0 := cell_grown hb9 x0
        replace x1 := cell_grown hb9 x1
        replace x2 := cell_grown hb9 x2
        replace hS0 := hS0.grown hb9
        replace hC0 := hC0.grown hb9
        replace HB := hid (HB.out.trans (hb9.mono HB.out.size))
        replace hI0 := hI0.grown hb9
        replace hRT := hRT.grown hb9
        clear hb9
        cases hst : staffsM m q Z
        · have HST := hid hst
          clear hst
          have HPV : Hid (proveM len long short due delay L C Z = false) := hid (by rw [prove_ok HFV.out, HC.out, HTT.out, HQ.out, HST.out]; rfl)
          have hBd : Below w9.heap.size w9 w9.drew := (Below.refl _ _).drew
          go_wp2_with fail
          go_region_held3 (fun w' : World => w'.cell? ⟨w.heap.size, 0, none⟩ = some (.int .i64 len) ∧ w'.cell? ⟨w.heap.size, 1, none⟩ = some (.slice a n cap) ∧ w'.cell? ⟨w.heap.size, 2, none⟩ = some (.int .i64 long) ∧ w'.cell? ⟨w.heap.size, 3, none⟩ = some (.int .i64 short) ∧ w'.cell? ⟨w.heap.size + 1, 0, none⟩ = some (.slice ca m cc) ∧ w'.cell? ⟨w.heap.size + 1, 1, none⟩ = some (.int .i64 due) ∧ w'.cell? ⟨w.heap.size + 1, 2, none⟩ = some (.int .i64 delay)) (exact ⟨y0, y1, y2, y3, x0, x1, x2⟩) (first | (go_at_call 18; replace y0 := cell_grown hBd y0; replace y1 := cell_grown hBd y1; replace y2 := cell_grown hBd y2; replace y3 := cell_grown hBd y3; replace x0 := cell_grown hBd x0; replace x1 := cell_grown hBd x1; replace x2 := cell_grown hBd x2; replace hS0 := hS0.grown hBd; replace hC0 := hC0.grown hBd; replace hI0 := hI0.grown hBd; refine (sitting_any L len long short n cap a _ HL.out hn60 hS0).mono ?_; rintro e w2 ⟨ra, rc, rfl, hSr, hb2⟩; replace HB := hid (HB.out.trans (hBd.mono HB.out.size)); replace HB := hid (HB.out.trans (hb2.mono HB.out.size)); replace y0 := cell_grown hb2 y0; replace y1 := cell_grown hb2 y1; replace y2 := cell_grown hb2 y2; replace y3 := cell_grown hb2 y3; replace x0 := cell_grown hb2 x0; replace x1 := cell_grown hb2 x1; replace x2 := cell_grown hb2 x2; replace hS0 := hS0.grown hb2; replace hC0 := hC0.grown hb2; replace hI0 := hI0.grown hb2) | (go_at_call 20; refine (office_any C due delay m cc ca _ HC.out (by omega) hC0).mono ?_; rintro e w3 ⟨rb, rd, rfl, hCr3, hb3⟩; replace HB := hid (HB.out.trans (hb3.mono HB.out.size)); replace hSr := hSr.grown hb3; replace y0 := cell_grown hb3 y0; replace y1 := cell_grown hb3 y1; replace y2 := cell_grown hb3 y2; replace y3 := cell_grown hb3 y3; replace x0 := cell_grown hb3 x0; replace x1 := cell_grown hb3 x1; replace x2 := cell_grown hb3 x2; replace hS0 := hS0.grown hb3; replace hC0 := hC0.grown hb3; replace hI0 := hI0.grown hb3) | (go_at_call 35; refine (list_any Z zn zc za _ HZ.out (by omega) hI0 HZA.out).mono ?_; rintro e w4 ⟨vz, rfl, hownz, hb4⟩; obtain ⟨rz2, rzc2, rfl⟩ := owns_shape hownz; have hIz2 := ints_of_owns1 HZ.out hownz; replace HB := hid (HB.out.trans (hb4.mono HB.out.size)); replace hSr := hSr.grown hb4; replace hCr3 := hCr3.grown hb4; replace y0 := cell_grown hb4 y0; replace y1 := cell_grown hb4 y1; replace y2 := cell_grown hb4 y2; replace y3 := cell_grown hb4 y3; replace x0 := cell_grown hb4 x0; replace x1 := cell_grown hb4 x1; replace x2 := cell_grown hb4 x2; replace hS0 := hS0.grown hb4; replace hC0 := hC0.grown hb4) | (go_at_call 38; refine (prove_any L len long short due delay C Z n rc m rd zn rzc2 ra rb rz2 _ HL.out hn hSr HC.out hm hCr3 HZ.out (by unfold maxLen; omega) hIz2).mono ?_; rw [HPV.out]; rintro e w5 ⟨rfl, hb5⟩; replace HB := hid (HB.out.trans (hb5.mono HB.out.size)); replace y0 := cell_grown hb5 y0; replace y1 := cell_grown hb5 y1; replace y2 := cell_grown hb5 y2; replace y3 := cell_grown hb5 y3; replace x0 := cell_grown hb5 x0; replace x1 := cell_grown hb5 x1; replace x2 := cell_grown hb5 x2; replace hS0 := hS0.grown hb5; replace hC0 := hC0.grown hb5) | (go_at_call 16; refine (awake_any _).mono ?_; rintro e w6 ⟨rfl, hb6⟩; replace HB := hid (HB.out.trans (hb6.mono HB.out.size)); replace y0 := cell_grown hb6 y0; replace y1 := cell_grown hb6 y1; replace y2 := cell_grown hb6 y2; replace y3 := cell_grown hb6 y3; replace x0 := cell_grown hb6 x0; replace x1 := cell_grown hb6 x1; replace x2 := cell_grown hb6 x2; replace hS0 := hS0.grown hb6; replace hC0 := hC0.grown hb6))
          go_wp2
          go_ret
          exact ⟨rfl, HB.out⟩
        · have HST := hid hst
          have hzq : zn = q := by rw [← HZ.out]; exact (staffs_at hst).1
          have HQ2 : Hid (T.length = zn) := hid (by rw [HQ.out, hzq])
          have HPV0 : Hid (proveM len long short due delay L C Z = (List.range zn).all fun k => rotaOk due delay C T (Z.map Int.toNat) k) := hid (by rw [prove_ok HFV.out, HC.out, HTT.out, HQ.out, HST.out, Bool.true_and, HZ.out])
          have hrange := staffs_at hst
          have HRG : Hid (∀ j, j < zn → 0 ≤ Z.getD j 0 ∧ Z.getD j 0 < m) := hid (fun j hj => hrange.2 j (by rw [HZ.out]; exact hj))
          clear hst hrange HST HQ
          subst hzq
          go_wp2_with fail
          refine (isRota_any C T Z due delay m cc zn rtc zc ca rt za w9 HC.out hc5 hC0 HBC.out HQ2.out h40 hRT (fun k hk => by rw [← HTT.out]; exact takesOf_bd HOK.out (by rw [HTT.out, HQ2.out]; exact hk)) HZ.out hI0 HCAP.out HRG.out hdueb hdelb).mono ?_
          obtain ⟨b, hb⟩ : ∃ b, ((List.range zn).all fun k => rotaOk due delay C T (Z.map Int.toNat) k) = b := ⟨_, rfl⟩
          have HPV : Hid (proveM len long short due delay L C Z = b) := hid (by rw [HPV0.out]; exact hb)
          rw [hb]
          clear hb
          rintro e w10 ⟨rfl, hb10⟩
          replace y0 := cell_grown hb10 y0
          replace y1 := cell_grown hb10 y1
          replace y2 := cell_grown hb10 y2
          replace y3 := cell_grown hb10 y3
          replace x0 := cell_grown hb10 x0
          replace x1 := cell_grown hb10 x1
          replace x2 := cell_grown hb10 x2
          replace hS0 := hS0.grown hb10
          replace hC0 := hC0.grown hb10
          replace HB := hid (HB.out.trans (hb10.mono HB.out.size))
          replace hI0 := hI0.grown hb10
          clear hb10
          cases b
          all_goals
            have hBd : Below w10.heap.size w10 w10.drew := (Below.refl _ _).drew
            go_wp2_with fail
            go_region_held3 (fun w' : World => w'.cell? ⟨w.heap.size, 0, none⟩ = some (.int .i64 len) ∧ w'.cell? ⟨w.heap.size, 1, none⟩ = some (.slice a n cap) ∧ w'.cell? ⟨w.heap.size, 2, none⟩ = some (.int .i64 long) ∧ w'.cell? ⟨w.heap.size, 3, none⟩ = some (.int .i64 short) ∧ w'.cell? ⟨w.heap.size + 1, 0, none⟩ = some (.slice ca m cc) ∧ w'.cell? ⟨w.heap.size + 1, 1, none⟩ = some (.int .i64 due) ∧ w'.cell? ⟨w.heap.size + 1, 2, none⟩ = some (.int .i64 delay)) (exact ⟨y0, y1, y2, y3, x0, x1, x2⟩) (first | (go_at_call 18; replace y0 := cell_grown hBd y0; replace y1 := cell_grown hBd y1; replace y2 := cell_grown hBd y2; replace y3 := cell_grown hBd y3; replace x0 := cell_grown hBd x0; replace x1 := cell_grown hBd x1; replace x2 := cell_grown hBd x2; replace hS0 := hS0.grown hBd; replace hC0 := hC0.grown hBd; replace hI0 := hI0.grown hBd; refine (sitting_any L len long short n cap a _ HL.out hn60 hS0).mono ?_; rintro e w2 ⟨ra, rc, rfl, hSr, hb2⟩; replace HB := hid (HB.out.trans (hBd.mono HB.out.size)); replace HB := hid (HB.out.trans (hb2.mono HB.out.size)); replace y0 := cell_grown hb2 y0; replace y1 := cell_grown hb2 y1; replace y2 := cell_grown hb2 y2; replace y3 := cell_grown hb2 y3; replace x0 := cell_grown hb2 x0; replace x1 := cell_grown hb2 x1; replace x2 := cell_grown hb2 x2; replace hS0 := hS0.grown hb2; replace hC0 := hC0.grown hb2; replace hI0 := hI0.grown hb2) | (go_at_call 20; refine (office_any C due delay m cc ca _ HC.out (by omega) hC0).mono ?_; rintro e w3 ⟨rb, rd, rfl, hCr3, hb3⟩; replace HB := hid (HB.out.trans (hb3.mono HB.out.size)); replace hSr := hSr.grown hb3; replace y0 := cell_grown hb3 y0; replace y1 := cell_grown hb3 y1; replace y2 := cell_grown hb3 y2; replace y3 := cell_grown hb3 y3; replace x0 := cell_grown hb3 x0; replace x1 := cell_grown hb3 x1; replace x2 := cell_grown hb3 x2; replace hS0 := hS0.grown hb3; replace hC0 := hC0.grown hb3; replace hI0 := hI0.grown hb3) | (go_at_call 35; refine (list_any Z zn zc za _ HZ.out (by omega) hI0 HZA.out).mono ?_; rintro e w4 ⟨vz, rfl, hownz, hb4⟩; obtain ⟨rz2, rzc2, rfl⟩ := owns_shape hownz; have hIz2 := ints_of_owns1 HZ.out hownz; replace HB := hid (HB.out.trans (hb4.mono HB.out.size)); replace hSr := hSr.grown hb4; replace hCr3 := hCr3.grown hb4; replace y0 := cell_grown hb4 y0; replace y1 := cell_grown hb4 y1; replace y2 := cell_grown hb4 y2; replace y3 := cell_grown hb4 y3; replace x0 := cell_grown hb4 x0; replace x1 := cell_grown hb4 x1; replace x2 := cell_grown hb4 x2; replace hS0 := hS0.grown hb4; replace hC0 := hC0.grown hb4) | (go_at_call 38; refine (prove_any L len long short due delay C Z n rc m rd zn rzc2 ra rb rz2 _ HL.out hn hSr HC.out hm hCr3 HZ.out (by unfold maxLen; omega) hIz2).mono ?_; rw [HPV.out]; rintro e w5 ⟨rfl, hb5⟩; replace HB := hid (HB.out.trans (hb5.mono HB.out.size)); replace y0 := cell_grown hb5 y0; replace y1 := cell_grown hb5 y1; replace y2 := cell_grown hb5 y2; replace y3 := cell_grown hb5 y3; replace x0 := cell_grown hb5 x0; replace x1 := cell_grown hb5 x1; replace x2 := cell_grown hb5 x2; replace hS0 := hS0.grown hb5; replace hC0 := hC0.grown hb5) | (go_at_call 16; refine (awake_any _).mono ?_; rintro e w6 ⟨rfl, hb6⟩; replace HB := hid (HB.out.trans (hb6.mono HB.out.size)); replace y0 := cell_grown hb6 y0; replace y1 := cell_grown hb6 y1; replace y2 := cell_grown hb6 y2; replace y3 := cell_grown hb6 y3; replace x0 := cell_grown hb6 x0; replace x1 := cell_grown hb6 x1; replace x2 := cell_grown hb6 x2; replace hS0 := hS0.grown hb6; replace hC0 := hC0.grown hb6))
            go_wp2
            go_ret
            exact ⟨rfl, HB.out⟩
      · have hBd : Below w7.heap.size w7 w7.drew := (Below.refl _ _).drew
        go_wp2_with fail
        go_region_held3 (fun w' : World => w'.cell? ⟨w.heap.size, 0, none⟩ = some (.int .i64 len) ∧ w'.cell? ⟨w.heap.size, 1, none⟩ = some (.slice a n cap) ∧ w'.cell? ⟨w.heap.size, 2, none⟩ = some (.int .i64 long) ∧ w'.cell? ⟨w.heap.size, 3, none⟩ = some (.int .i64 short) ∧ w'.cell? ⟨w.heap.size + 1, 0, none⟩ = some (.slice ca m cc) ∧ w'.cell? ⟨w.heap.size + 1, 1, none⟩ = some (.int .i64 due) ∧ w'.cell? ⟨w.heap.size + 1, 2, none⟩ = some (.int .i64 delay)) (exact ⟨y0, y1, y2, y3, x0, x1, x2⟩) (first | (go_at_call 18; replace y0 := cell_grown hBd y0; replace y1 := cell_grown hBd y1; replace y2 := cell_grown hBd y2; replace y3 := cell_grown hBd y3; replace x0 := cell_grown hBd x0; replace x1 := cell_grown hBd x1; replace x2 := cell_grown hBd x2; replace hS0 := hS0.grown hBd; replace hC0 := hC0.grown hBd; replace hI0 := hI0.grown hBd; refine (sitting_any L len long short n cap a _ HL.out hn60 hS0).mono ?_; rintro e w2 ⟨ra, rc, rfl, hSr, hb2⟩; replace HB := hid (HB.out.trans (hBd.mono HB.out.size)); replace HB := hid (HB.out.trans (hb2.mono HB.out.size)); replace y0 := cell_grown hb2 y0; replace y1 := cell_grown hb2 y1; replace y2 := cell_grown hb2 y2; replace y3 := cell_grown hb2 y3; replace x0 := cell_grown hb2 x0; replace x1 := cell_grown hb2 x1; replace x2 := cell_grown hb2 x2; replace hS0 := hS0.grown hb2; replace hC0 := hC0.grown hb2; replace hI0 := hI0.grown hb2) | (go_at_call 20; refine (office_any C due delay m cc ca _ HC.out (by omega) hC0).mono ?_; rintro e w3 ⟨rb, rd, rfl, hCr3, hb3⟩; replace HB := hid (HB.out.trans (hb3.mono HB.out.size)); replace hSr := hSr.grown hb3; replace y0 := cell_grown hb3 y0; replace y1 := cell_grown hb3 y1; replace y2 := cell_grown hb3 y2; replace y3 := cell_grown hb3 y3; replace x0 := cell_grown hb3 x0; replace x1 := cell_grown hb3 x1; replace x2 := cell_grown hb3 x2; replace hS0 := hS0.grown hb3; replace hC0 := hC0.grown hb3; replace hI0 := hI0.grown hb3) | (go_at_call 29; refine (rota_any L len long short due delay C n rc m rd ra rb _ HL.out hn hSr HC.out hm hCr3).mono ?_; intro e w10 hpost; obtain ⟨va, vn, vc, er, R, rfl, hb10, hRn, hRI, HRO⟩ := rota_one hpost HFV.out; replace HB := hid (HB.out.trans (hb10.mono HB.out.size)); replace hI0 := hI0.grown hb10; replace y0 := cell_grown hb10 y0; replace y1 := cell_grown hb10 y1; replace y2 := cell_grown hb10 y2; replace y3 := cell_grown hb10 y3; replace x0 := cell_grown hb10 x0; replace x1 := cell_grown hb10 x1; replace x2 := cell_grown hb10 x2; replace hS0 := hS0.grown hb10; replace hC0 := hC0.grown hb10))
        clear hpost hb2 hb3 hb10 hSr hCr3 hBd
        rcases HRO with ⟨her, hbest⟩ | ⟨her, hRnil, _⟩
        · subst her
          have hlen40 : vn ≤ 40 := by
            have h1 := hbest.2.1
            rw [hRn, Nat.zero_add] at h1
            have h2 : (howOf due delay C (takesOf len long short L)).tn = q := by rw [HTT.out]; exact HQ.out
            omega
          clear hbest
          by_cases hv0 : vn = 0
          · subst hv0
            go_wp2_with fail
            refine (takesR_all L len long short n cap a w10 HL.out hn60 hS0 HOK.out).mono ?_
            rw [HTT.out, HQ.out]
            rintro e w8 ⟨rt, rtc, rfl, _, hb8, hRT⟩
            replace y0 := cell_grown hb8 y0
            replace y1 := cell_grown hb8 y1
            replace y2 := cell_grown hb8 y2
            replace y3 := cell_grown hb8 y3
            replace x0 := cell_grown hb8 x0
            replace x1 := cell_grown hb8 x1
            replace x2 := cell_grown hb8 x2
            replace hS0 := hS0.grown hb8
            replace hC0 := hC0.grown hb8
            replace HB := hid (HB.out.trans (hb8.mono HB.out.size))
            replace hI0 := hI0.grown hb8
            clear hb8
            go_wp2_with fail
            refine (listed_any Z due delay ca rt za m cc q rtc zn zc w8 HZ.out (by omega) hI0 (by omega) (by omega)).mono ?_
            rintro e w9 ⟨rfl, hb9⟩
            replace y0 := cell_grown hb9 y0
            replace y1 := cell_grown hb9 y1
            replace y2 := cell_grown hb9 y2
            replace y3 := cell_grown hb9 y3
            replace x0 := cell_grown hb9 x0
            replace x1 := cell_grown hb9 x1
            replace x2 := cell_grown hb9 x2
            replace hS0 := hS0.grown hb9
            replace hC0 := hC0.grown hb9
            replace HB := hid (HB.out.trans (hb9.mono HB.out.size))
            replace hI0 := hI0.grown hb9
            replace hRT := hRT.grown hb9
            clear hb9
            cases hst : staffsM m q Z
            · have HST := hid hst
              clear hst
              have HPV : Hid (proveM len long short due delay L C Z = false) := hid (by rw [prove_ok HFV.out, HC.out, HTT.out, HQ.out, HST.out]; rfl)
              have hBd : Below w9.heap.size w9 w9.drew := (Below.refl _ _).drew
              go_wp2_with fail
              go_region_held3 (fun w' : World => w'.cell? ⟨w.heap.size, 0, none⟩ = some (.int .i64 len) ∧ w'.cell? ⟨w.heap.size, 1, none⟩ = some (.slice a n cap) ∧ w'.cell? ⟨w.heap.size, 2, none⟩ = some (.int .i64 long) ∧ w'.cell? ⟨w.heap.size, 3, none⟩ = some (.int .i64 short) ∧ w'.cell? ⟨w.heap.size + 1, 0, none⟩ = some (.slice ca m cc) ∧ w'.cell? ⟨w.heap.size + 1, 1, none⟩ = some (.int .i64 due) ∧ w'.cell? ⟨w.heap.size + 1, 2, none⟩ = some (.int .i64 delay)) (exact ⟨y0, y1, y2, y3, x0, x1, x2⟩) (first | (go_at_call 18; replace y0 := cell_grown hBd y0; replace y1 := cell_grown hBd y1; replace y2 := cell_grown hBd y2; replace y3 := cell_grown hBd y3; replace x0 := cell_grown hBd x0; replace x1 := cell_grown hBd x1; replace x2 := cell_grown hBd x2; replace hS0 := hS0.grown hBd; replace hC0 := hC0.grown hBd; replace hI0 := hI0.grown hBd; refine (sitting_any L len long short n cap a _ HL.out hn60 hS0).mono ?_; rintro e w2 ⟨ra, rc, rfl, hSr, hb2⟩; replace HB := hid (HB.out.trans (hBd.mono HB.out.size)); replace HB := hid (HB.out.trans (hb2.mono HB.out.size)); replace y0 := cell_grown hb2 y0; replace y1 := cell_grown hb2 y1; replace y2 := cell_grown hb2 y2; replace y3 := cell_grown hb2 y3; replace x0 := cell_grown hb2 x0; replace x1 := cell_grown hb2 x1; replace x2 := cell_grown hb2 x2; replace hS0 := hS0.grown hb2; replace hC0 := hC0.grown hb2; replace hI0 := hI0.grown hb2) | (go_at_call 20; refine (office_any C due delay m cc ca _ HC.out (by omega) hC0).mono ?_; rintro e w3 ⟨rb, rd, rfl, hCr3, hb3⟩; replace HB := hid (HB.out.trans (hb3.mono HB.out.size)); replace hSr := hSr.grown hb3; replace y0 := cell_grown hb3 y0; replace y1 := cell_grown hb3 y1; replace y2 := cell_grown hb3 y2; replace y3 := cell_grown hb3 y3; replace x0 := cell_grown hb3 x0; replace x1 := cell_grown hb3 x1; replace x2 := cell_grown hb3 x2; replace hS0 := hS0.grown hb3; replace hC0 := hC0.grown hb3; replace hI0 := hI0.grown hb3) | (go_at_call 35; refine (list_any Z zn zc za _ HZ.out (by omega) hI0 HZA.out).mono ?_; rintro e w4 ⟨vz, rfl, hownz, hb4⟩; obtain ⟨rz2, rzc2, rfl⟩ := owns_shape hownz; have hIz2 := ints_of_owns1 HZ.out hownz; replace HB := hid (HB.out.trans (hb4.mono HB.out.size)); replace hSr := hSr.grown hb4; replace hCr3 := hCr3.grown hb4; replace y0 := cell_grown hb4 y0; replace y1 := cell_grown hb4 y1; replace y2 := cell_grown hb4 y2; replace y3 := cell_grown hb4 y3; replace x0 := cell_grown hb4 x0; replace x1 := cell_grown hb4 x1; replace x2 := cell_grown hb4 x2; replace hS0 := hS0.grown hb4; replace hC0 := hC0.grown hb4) | (go_at_call 38; refine (prove_any L len long short due delay C Z n rc m rd zn rzc2 ra rb rz2 _ HL.out hn hSr HC.out hm hCr3 HZ.out (by unfold maxLen; omega) hIz2).mono ?_; rw [HPV.out]; rintro e w5 ⟨rfl, hb5⟩; replace HB := hid (HB.out.trans (hb5.mono HB.out.size)); replace y0 := cell_grown hb5 y0; replace y1 := cell_grown hb5 y1; replace y2 := cell_grown hb5 y2; replace y3 := cell_grown hb5 y3; replace x0 := cell_grown hb5 x0; replace x1 := cell_grown hb5 x1; replace x2 := cell_grown hb5 x2; replace hS0 := hS0.grown hb5; replace hC0 := hC0.grown hb5) | (go_at_call 16; refine (awake_any _).mono ?_; rintro e w6 ⟨rfl, hb6⟩; replace HB := hid (HB.out.trans (hb6.mono HB.out.size)); replace y0 := cell_grown hb6 y0; replace y1 := cell_grown hb6 y1; replace y2 := cell_grown hb6 y2; replace y3 := cell_grown hb6 y3; replace x0 := cell_grown hb6 x0; replace x1 := cell_grown hb6 x1; replace x2 := cell_grown hb6 x2; replace hS0 := hS0.grown hb6; replace hC0 := hC0.grown hb6))
              go_wp2
              go_ret
              exact ⟨rfl, HB.out⟩
            · have HST := hid hst
              have hzq : zn = q := by rw [← HZ.out]; exact (staffs_at hst).1
              have HQ2 : Hid (T.length = zn) := hid (by rw [HQ.out, hzq])
              have HPV0 : Hid (proveM len long short due delay L C Z = (List.range zn).all fun k => rotaOk due delay C T (Z.map Int.toNat) k) := hid (by rw [prove_ok HFV.out, HC.out, HTT.out, HQ.out, HST.out, Bool.true_and, HZ.out])
              have hrange := staffs_at hst
              have HRG : Hid (∀ j, j < zn → 0 ≤ Z.getD j 0 ∧ Z.getD j 0 < m) := hid (fun j hj => hrange.2 j (by rw [HZ.out]; exact hj))
              clear hst hrange HST HQ
              subst hzq
              go_wp2_with fail
              refine (isRota_any C T Z due delay m cc zn rtc zc ca rt za w9 HC.out hc5 hC0 HBC.out HQ2.out h40 hRT (fun k hk => by rw [← HTT.out]; exact takesOf_bd HOK.out (by rw [HTT.out, HQ2.out]; exact hk)) HZ.out hI0 HCAP.out HRG.out hdueb hdelb).mono ?_
              obtain ⟨b, hb⟩ : ∃ b, ((List.range zn).all fun k => rotaOk due delay C T (Z.map Int.toNat) k) = b := ⟨_, rfl⟩
              have HPV : Hid (proveM len long short due delay L C Z = b) := hid (by rw [HPV0.out]; exact hb)
              rw [hb]
              clear hb
              rintro e w10 ⟨rfl, hb10⟩
              replace y0 := cell_grown hb10 y0
              replace y1 := cell_grown hb10 y1
              replace y2 := cell_grown hb10 y2
              replace y3 := cell_grown hb10 y3
              replace x0 := cell_grown hb10 x0
              replace x1 := cell_grown hb10 x1
              replace x2 := cell_grown hb10 x2
              replace hS0 := hS0.grown hb10
              replace hC0 := hC0.grown hb10
              replace HB := hid (HB.out.trans (hb10.mono HB.out.size))
              replace hI0 := hI0.grown hb10
              clear hb10
              cases b
              all_goals
                have hBd : Below w10.heap.size w10 w10.drew := (Below.refl _ _).drew
                go_wp2_with fail
                go_region_held3 (fun w' : World => w'.cell? ⟨w.heap.size, 0, none⟩ = some (.int .i64 len) ∧ w'.cell? ⟨w.heap.size, 1, none⟩ = some (.slice a n cap) ∧ w'.cell? ⟨w.heap.size, 2, none⟩ = some (.int .i64 long) ∧ w'.cell? ⟨w.heap.size, 3, none⟩ = some (.int .i64 short) ∧ w'.cell? ⟨w.heap.size + 1, 0, none⟩ = some (.slice ca m cc) ∧ w'.cell? ⟨w.heap.size + 1, 1, none⟩ = some (.int .i64 due) ∧ w'.cell? ⟨w.heap.size + 1, 2, none⟩ = some (.int .i64 delay)) (exact ⟨y0, y1, y2, y3, x0, x1, x2⟩) (first | (go_at_call 18; replace y0 := cell_grown hBd y0; replace y1 := cell_grown hBd y1; replace y2 := cell_grown hBd y2; replace y3 := cell_grown hBd y3; replace x0 := cell_grown hBd x0; replace x1 := cell_grown hBd x1; replace x2 := cell_grown hBd x2; replace hS0 := hS0.grown hBd; replace hC0 := hC0.grown hBd; replace hI0 := hI0.grown hBd; refine (sitting_any L len long short n cap a _ HL.out hn60 hS0).mono ?_; rintro e w2 ⟨ra, rc, rfl, hSr, hb2⟩; replace HB := hid (HB.out.trans (hBd.mono HB.out.size)); replace HB := hid (HB.out.trans (hb2.mono HB.out.size)); replace y0 := cell_grown hb2 y0; replace y1 := cell_grown hb2 y1; replace y2 := cell_grown hb2 y2; replace y3 := cell_grown hb2 y3; replace x0 := cell_grown hb2 x0; replace x1 := cell_grown hb2 x1; replace x2 := cell_grown hb2 x2; replace hS0 := hS0.grown hb2; replace hC0 := hC0.grown hb2; replace hI0 := hI0.grown hb2) | (go_at_call 20; refine (office_any C due delay m cc ca _ HC.out (by omega) hC0).mono ?_; rintro e w3 ⟨rb, rd, rfl, hCr3, hb3⟩; replace HB := hid (HB.out.trans (hb3.mono HB.out.size)); replace hSr := hSr.grown hb3; replace y0 := cell_grown hb3 y0; replace y1 := cell_grown hb3 y1; replace y2 := cell_grown hb3 y2; replace y3 := cell_grown hb3 y3; replace x0 := cell_grown hb3 x0; replace x1 := cell_grown hb3 x1; replace x2 := cell_grown hb3 x2; replace hS0 := hS0.grown hb3; replace hC0 := hC0.grown hb3; replace hI0 := hI0.grown hb3) | (go_at_call 35; refine (list_any Z zn zc za _ HZ.out (by omega) hI0 HZA.out).mono ?_; rintro e w4 ⟨vz, rfl, hownz, hb4⟩; obtain ⟨rz2, rzc2, rfl⟩ := owns_shape hownz; have hIz2 := ints_of_owns1 HZ.out hownz; replace HB := hid (HB.out.trans (hb4.mono HB.out.size)); replace hSr := hSr.grown hb4; replace hCr3 := hCr3.grown hb4; replace y0 := cell_grown hb4 y0; replace y1 := cell_grown hb4 y1; replace y2 := cell_grown hb4 y2; replace y3 := cell_grown hb4 y3; replace x0 := cell_grown hb4 x0; replace x1 := cell_grown hb4 x1; replace x2 := cell_grown hb4 x2; replace hS0 := hS0.grown hb4; replace hC0 := hC0.grown hb4) | (go_at_call 38; refine (prove_any L len long short due delay C Z n rc m rd zn rzc2 ra rb rz2 _ HL.out hn hSr HC.out hm hCr3 HZ.out (by unfold maxLen; omega) hIz2).mono ?_; rw [HPV.out]; rintro e w5 ⟨rfl, hb5⟩; replace HB := hid (HB.out.trans (hb5.mono HB.out.size)); replace y0 := cell_grown hb5 y0; replace y1 := cell_grown hb5 y1; replace y2 := cell_grown hb5 y2; replace y3 := cell_grown hb5 y3; replace x0 := cell_grown hb5 x0; replace x1 := cell_grown hb5 x1; replace x2 := cell_grown hb5 x2; replace hS0 := hS0.grown hb5; replace hC0 := hC0.grown hb5) | (go_at_call 16; refine (awake_any _).mono ?_; rintro e w6 ⟨rfl, hb6⟩; replace HB := hid (HB.out.trans (hb6.mono HB.out.size)); replace y0 := cell_grown hb6 y0; replace y1 := cell_grown hb6 y1; replace y2 := cell_grown hb6 y2; replace y3 := cell_grown hb6 y3; replace x0 := cell_grown hb6 x0; replace x1 := cell_grown hb6 x1; replace x2 := cell_grown hb6 x2; replace hS0 := hS0.grown hb6; replace hC0 := hC0.grown hb6))
                go_wp2
                go_ret
                exact ⟨rfl, HB.out⟩
          · have hvp : (0 : Int) < (vn : Int) := by omega
            have hv45 : (vn : Int) ≤ 45 := by omega
            obtain ⟨Zr, hZr⟩ : ∃ Zr, (R.map fun r : Nat => (r : Int)) = Zr := ⟨_, rfl⟩
            have HZl : Hid (Zr.length = vn) := hid (by rw [← hZr, List.length_map, hRn])
            rw [hZr] at hRI
            clear hZr hRn
            have hva : va = none → vc = 0 := fun h => by
              obtain ⟨b, off, e, _⟩ := hRI 0 (by rw [HZl.out]; omega)
              rw [h] at e
              simp at e
            have HVA := hid hva
            clear hva hI0 HZ HZA HCAP
            have K10 := hid (And.intro y0 (And.intro y1 (And.intro y2 (And.intro y3 (And.intro x0 (And.intro x1 (And.intro x2 (And.intro hS0 (And.intro hC0 HB.out)))))))))
            go_wp2_with fail
            refine (list_any Zr vn vc va w10 HZl.out (by omega) hRI HVA.out).mono ?_
            rintro e w11 ⟨vz, rfl, hownz, hb11⟩
            obtain ⟨rz, rzc, rfl⟩ := owns_shape hownz
            replace y0 := cell_grown hb11 y0
            replace y1 := cell_grown hb11 y1
            replace y2 := cell_grown hb11 y2
            replace y3 := cell_grown hb11 y3
            replace x0 := cell_grown hb11 x0
            replace x1 := cell_grown hb11 x1
            replace x2 := cell_grown hb11 x2
            replace hS0 := hS0.grown hb11
            replace hC0 := hC0.grown hb11
            replace HB := hid (HB.out.trans (hb11.mono HB.out.size))
            have HZ := hid HZl.out
            obtain ⟨hcap2, hnone2⟩ := owns_cap hownz
            have HCAP := hid hcap2
            have HZA := hid hnone2
            have hIz := ints_of_owns1 HZl.out hownz
            clear hRI hcap2 hnone2 HZl HVA
            by_cases hev : to_ % 2 = 0
            · obtain ⟨g, rfl, hgb⟩ : ∃ g, rz = some ⟨g, 0, none⟩ ∧ w10.heap.size ≤ g := by
                rcases hownz.2 with ⟨e, _⟩ | ⟨g', cap', cur, e, hb, _⟩
                · cases e
                  omega
                · cases e
                  exact ⟨g', rfl, hb⟩
              obtain ⟨ix, hix⟩ : ∃ ix : Nat, at_ % (vn : Int) = (ix : Int) := ⟨(at_ % (vn : Int)).toNat, by have := Int.emod_nonneg at_ (show (vn : Int) ≠ 0 by omega); omega⟩
              have hixl : (ix : Int) < vn := by rw [← hix]; exact Int.emod_lt_of_pos _ hvp
              obtain ⟨vl, hvl⟩ : ∃ vl, (to_ / 2) % (m : Int) = vl := ⟨_, rfl⟩
              have hmp : (0 : Int) < m := by omega
              have hcell := hownz.cells (g := g) rfl ix (.int .i64 (Zr.getD ix 0)) (by have : ix < Zr.length := by rw [HZ.out]; omega
                                                                                       simp [flat1, List.getElem?_eq_getElem this])
              have hadd : (⟨g, 0, none⟩ : Addr).add ix = ⟨g, ix, none⟩ := by unfold Addr.add; split <;> simp_all
              rw [hadd] at hcell
              have hfr : w11.frozen? ⟨g, ix, none⟩ = false := by
                rcases hownz.2 with ⟨e, _⟩ | ⟨g', cap', cur, e, _, hh, _⟩
                · cases e
                · cases e
                  exact frozen_of_row _ _ _ _ _ hh
              have hset := ownsRow_setAt hownz (i := ix) (by omega) (.int .i64 vl)
              have HSET := hid hset
              have hgl := lt_of_cell hcell
              have hgw := lt_of_cell x0
              clear hset hadd
              go_wp2_with fail
              go_region
              obtain ⟨w12, hW12⟩ : ∃ W, W = (w11.setCell ⟨g, ix, none⟩ (.int .i64 vl)).drew := ⟨_, rfl⟩
              have hb12 : Below w10.heap.size w10 w12 := by rw [hW12]; exact hb11.trans (((Below.refl _ _).setCell (p := ⟨g, ix, none⟩) hgb _).drew)
              obtain ⟨Z2, hZ2⟩ : ∃ Z2, Zr.set ix vl = Z2 := ⟨_, rfl⟩
              have hset2 : w12.ownsRow w10.heap.size 3 1 (.slice (some ⟨g, 0, none⟩) vn rzc) vn (flat1 Z2) := by
                have h1 := HSET.out
                rw [show (flat1 Zr).set ix (.int .i64 vl) = flat1 Z2 from by rw [← hZ2]; simp [flat1, List.map_set]] at h1
                rw [hW12]
                exact h1
              replace HZ : Hid (Z2.length = vn) := hid (by rw [← hZ2, List.length_set]; exact HZ.out)
              have hIz2 := ints_of_owns1 HZ.out hset2
              rw [← hW12]
              obtain ⟨q0, q1, q2, q3, q4, q5, q6, q7, q8, HB10⟩ := K10.out
              replace y0 := cell_grown hb12 q0
              replace y1 := cell_grown hb12 q1
              replace y2 := cell_grown hb12 q2
              replace y3 := cell_grown hb12 q3
              replace x0 := cell_grown hb12 q4
              replace x1 := cell_grown hb12 q5
              replace x2 := cell_grown hb12 q6
              replace hS0 := q7.grown hb12
              replace hC0 := q8.grown hb12
              replace HB := hid (HB10.trans (hb12.mono HB10.size))
              clear q0 q1 q2 q3 q4 q5 q6 q7 q8 HB10 K10 hset2 hZ2 hW12 hb12 HSET hcell hfr hownz hIz hb11 hix hvl hgl hgw
              go_wp2_with fail
              refine (takesR_all L len long short n cap a w12 HL.out hn60 hS0 HOK.out).mono ?_
              rw [HTT.out, HQ.out]
              rintro e w8 ⟨rt, rtc, rfl, _, hb8, hRT⟩
              replace y0 := cell_grown hb8 y0
              replace y1 := cell_grown hb8 y1
              replace y2 := cell_grown hb8 y2
              replace y3 := cell_grown hb8 y3
              replace x0 := cell_grown hb8 x0
              replace x1 := cell_grown hb8 x1
              replace x2 := cell_grown hb8 x2
              replace hS0 := hS0.grown hb8
              replace hC0 := hC0.grown hb8
              replace HB := hid (HB.out.trans (hb8.mono HB.out.size))
              replace hIz2 := hIz2.grown hb8
              clear hb8
              go_wp2_with fail
              refine (listed_any Z2 due delay ca rt (some ⟨g, 0, none⟩) m cc q rtc vn rzc w8 HZ.out (by omega) hIz2 (by omega) (by omega)).mono ?_
              rintro e w9 ⟨rfl, hb9⟩
              replace y0 := cell_grown hb9 y0
              replace y1 := cell_grown hb9 y1
              replace y2 := cell_grown hb9 y2
              replace y3 := cell_grown hb9 y3
              replace x0 := cell_grown hb9 x0
              replace x1 := cell_grown hb9 x1
              replace x2 := cell_grown hb9 x2
              replace hS0 := hS0.grown hb9
              replace hC0 := hC0.grown hb9
              replace HB := hid (HB.out.trans (hb9.mono HB.out.size))
              replace hIz2 := hIz2.grown hb9
              replace hRT := hRT.grown hb9
              clear hb9
              cases hst : staffsM m q Z2
              · have HST := hid hst
                clear hst
                have HPV : Hid (proveM len long short due delay L C Z2 = false) := hid (by rw [prove_ok HFV.out, HC.out, HTT.out, HQ.out, HST.out]; rfl)
                have hBd : Below w9.heap.size w9 w9.drew := (Below.refl _ _).drew
                go_wp2_with fail
                go_region_held3 (fun w' : World => w'.cell? ⟨w.heap.size, 0, none⟩ = some (.int .i64 len) ∧ w'.cell? ⟨w.heap.size, 1, none⟩ = some (.slice a n cap) ∧ w'.cell? ⟨w.heap.size, 2, none⟩ = some (.int .i64 long) ∧ w'.cell? ⟨w.heap.size, 3, none⟩ = some (.int .i64 short) ∧ w'.cell? ⟨w.heap.size + 1, 0, none⟩ = some (.slice ca m cc) ∧ w'.cell? ⟨w.heap.size + 1, 1, none⟩ = some (.int .i64 due) ∧ w'.cell? ⟨w.heap.size + 1, 2, none⟩ = some (.int .i64 delay)) (exact ⟨y0, y1, y2, y3, x0, x1, x2⟩) (first | (go_at_call 18; replace y0 := cell_grown hBd y0; replace y1 := cell_grown hBd y1; replace y2 := cell_grown hBd y2; replace y3 := cell_grown hBd y3; replace x0 := cell_grown hBd x0; replace x1 := cell_grown hBd x1; replace x2 := cell_grown hBd x2; replace hS0 := hS0.grown hBd; replace hC0 := hC0.grown hBd; replace hIz2 := hIz2.grown hBd; refine (sitting_any L len long short n cap a _ HL.out hn60 hS0).mono ?_; rintro e w2 ⟨ra, rc, rfl, hSr, hb2⟩; replace HB := hid (HB.out.trans (hBd.mono HB.out.size)); replace HB := hid (HB.out.trans (hb2.mono HB.out.size)); replace y0 := cell_grown hb2 y0; replace y1 := cell_grown hb2 y1; replace y2 := cell_grown hb2 y2; replace y3 := cell_grown hb2 y3; replace x0 := cell_grown hb2 x0; replace x1 := cell_grown hb2 x1; replace x2 := cell_grown hb2 x2; replace hS0 := hS0.grown hb2; replace hC0 := hC0.grown hb2; replace hIz2 := hIz2.grown hb2) | (go_at_call 20; refine (office_any C due delay m cc ca _ HC.out (by omega) hC0).mono ?_; rintro e w3 ⟨rb, rd, rfl, hCr3, hb3⟩; replace HB := hid (HB.out.trans (hb3.mono HB.out.size)); replace hSr := hSr.grown hb3; replace y0 := cell_grown hb3 y0; replace y1 := cell_grown hb3 y1; replace y2 := cell_grown hb3 y2; replace y3 := cell_grown hb3 y3; replace x0 := cell_grown hb3 x0; replace x1 := cell_grown hb3 x1; replace x2 := cell_grown hb3 x2; replace hS0 := hS0.grown hb3; replace hC0 := hC0.grown hb3; replace hIz2 := hIz2.grown hb3) | (go_at_call 35; refine (list_any Z2 vn rzc (some ⟨g, 0, none⟩) _ HZ.out (by omega) hIz2 HZA.out).mono ?_; rintro e w4 ⟨vz, rfl, hownz, hb4⟩; obtain ⟨rz2, rzc2, rfl⟩ := owns_shape hownz; have hIz2 := ints_of_owns1 HZ.out hownz; replace HB := hid (HB.out.trans (hb4.mono HB.out.size)); replace hSr := hSr.grown hb4; replace hCr3 := hCr3.grown hb4; replace y0 := cell_grown hb4 y0; replace y1 := cell_grown hb4 y1; replace y2 := cell_grown hb4 y2; replace y3 := cell_grown hb4 y3; replace x0 := cell_grown hb4 x0; replace x1 := cell_grown hb4 x1; replace x2 := cell_grown hb4 x2; replace hS0 := hS0.grown hb4; replace hC0 := hC0.grown hb4) | (go_at_call 38; refine (prove_any L len long short due delay C Z2 n rc m rd vn rzc2 ra rb rz2 _ HL.out hn hSr HC.out hm hCr3 HZ.out (by unfold maxLen; omega) hIz2).mono ?_; rw [HPV.out]; rintro e w5 ⟨rfl, hb5⟩; replace HB := hid (HB.out.trans (hb5.mono HB.out.size)); replace y0 := cell_grown hb5 y0; replace y1 := cell_grown hb5 y1; replace y2 := cell_grown hb5 y2; replace y3 := cell_grown hb5 y3; replace x0 := cell_grown hb5 x0; replace x1 := cell_grown hb5 x1; replace x2 := cell_grown hb5 x2; replace hS0 := hS0.grown hb5; replace hC0 := hC0.grown hb5) | (go_at_call 16; refine (awake_any _).mono ?_; rintro e w6 ⟨rfl, hb6⟩; replace HB := hid (HB.out.trans (hb6.mono HB.out.size)); replace y0 := cell_grown hb6 y0; replace y1 := cell_grown hb6 y1; replace y2 := cell_grown hb6 y2; replace y3 := cell_grown hb6 y3; replace x0 := cell_grown hb6 x0; replace x1 := cell_grown hb6 x1; replace x2 := cell_grown hb6 x2; replace hS0 := hS0.grown hb6; replace hC0 := hC0.grown hb6))
                go_wp2
                go_ret
                exact ⟨rfl, HB.out⟩
              · have HST := hid hst
                have hzq : vn = q := by rw [← HZ.out]; exact (staffs_at hst).1
                have HQ2 : Hid (T.length = vn) := hid (by rw [HQ.out, hzq])
                have HPV0 : Hid (proveM len long short due delay L C Z2 = (List.range vn).all fun k => rotaOk due delay C T (Z2.map Int.toNat) k) := hid (by rw [prove_ok HFV.out, HC.out, HTT.out, HQ.out, HST.out, Bool.true_and, HZ.out])
                have hrange := staffs_at hst
                have HRG : Hid (∀ j, j < vn → 0 ≤ Z2.getD j 0 ∧ Z2.getD j 0 < m) := hid (fun j hj => hrange.2 j (by rw [HZ.out]; exact hj))
                clear hst hrange HST HQ
                subst hzq
                go_wp2_with fail
                refine (isRota_any C T Z2 due delay m cc vn rtc rzc ca rt (some ⟨g, 0, none⟩) w9 HC.out hc5 hC0 HBC.out HQ2.out h40 hRT (fun k hk => by rw [← HTT.out]; exact takesOf_bd HOK.out (by rw [HTT.out, HQ2.out]; exact hk)) HZ.out hIz2 HCAP.out HRG.out hdueb hdelb).mono ?_
                obtain ⟨b, hb⟩ : ∃ b, ((List.range vn).all fun k => rotaOk due delay C T (Z2.map Int.toNat) k) = b := ⟨_, rfl⟩
                have HPV : Hid (proveM len long short due delay L C Z2 = b) := hid (by rw [HPV0.out]; exact hb)
                rw [hb]
                clear hb
                rintro e w10 ⟨rfl, hb10⟩
                replace y0 := cell_grown hb10 y0
                replace y1 := cell_grown hb10 y1
                replace y2 := cell_grown hb10 y2
                replace y3 := cell_grown hb10 y3
                replace x0 := cell_grown hb10 x0
                replace x1 := cell_grown hb10 x1
                replace x2 := cell_grown hb10 x2
                replace hS0 := hS0.grown hb10
                replace hC0 := hC0.grown hb10
                replace HB := hid (HB.out.trans (hb10.mono HB.out.size))
                replace hIz2 := hIz2.grown hb10
                clear hb10
                cases b
                all_goals
                  have hBd : Below w10.heap.size w10 w10.drew := (Below.refl _ _).drew
                  go_wp2_with fail
                  go_region_held3 (fun w' : World => w'.cell? ⟨w.heap.size, 0, none⟩ = some (.int .i64 len) ∧ w'.cell? ⟨w.heap.size, 1, none⟩ = some (.slice a n cap) ∧ w'.cell? ⟨w.heap.size, 2, none⟩ = some (.int .i64 long) ∧ w'.cell? ⟨w.heap.size, 3, none⟩ = some (.int .i64 short) ∧ w'.cell? ⟨w.heap.size + 1, 0, none⟩ = some (.slice ca m cc) ∧ w'.cell? ⟨w.heap.size + 1, 1, none⟩ = some (.int .i64 due) ∧ w'.cell? ⟨w.heap.size + 1, 2, none⟩ = some (.int .i64 delay)) (exact ⟨y0, y1, y2, y3, x0, x1, x2⟩) (first | (go_at_call 18; replace y0 := cell_grown hBd y0; replace y1 := cell_grown hBd y1; replace y2 := cell_grown hBd y2; replace y3 := cell_grown hBd y3; replace x0 := cell_grown hBd x0; replace x1 := cell_grown hBd x1; replace x2 := cell_grown hBd x2; replace hS0 := hS0.grown hBd; replace hC0 := hC0.grown hBd; replace hIz2 := hIz2.grown hBd; refine (sitting_any L len long short n cap a _ HL.out hn60 hS0).mono ?_; rintro e w2 ⟨ra, rc, rfl, hSr, hb2⟩; replace HB := hid (HB.out.trans (hBd.mono HB.out.size)); replace HB := hid (HB.out.trans (hb2.mono HB.out.size)); replace y0 := cell_grown hb2 y0; replace y1 := cell_grown hb2 y1; replace y2 := cell_grown hb2 y2; replace y3 := cell_grown hb2 y3; replace x0 := cell_grown hb2 x0; replace x1 := cell_grown hb2 x1; replace x2 := cell_grown hb2 x2; replace hS0 := hS0.grown hb2; replace hC0 := hC0.grown hb2; replace hIz2 := hIz2.grown hb2) | (go_at_call 20; refine (office_any C due delay m cc ca _ HC.out (by omega) hC0).mono ?_; rintro e w3 ⟨rb, rd, rfl, hCr3, hb3⟩; replace HB := hid (HB.out.trans (hb3.mono HB.out.size)); replace hSr := hSr.grown hb3; replace y0 := cell_grown hb3 y0; replace y1 := cell_grown hb3 y1; replace y2 := cell_grown hb3 y2; replace y3 := cell_grown hb3 y3; replace x0 := cell_grown hb3 x0; replace x1 := cell_grown hb3 x1; replace x2 := cell_grown hb3 x2; replace hS0 := hS0.grown hb3; replace hC0 := hC0.grown hb3; replace hIz2 := hIz2.grown hb3) | (go_at_call 35; refine (list_any Z2 vn rzc (some ⟨g, 0, none⟩) _ HZ.out (by omega) hIz2 HZA.out).mono ?_; rintro e w4 ⟨vz, rfl, hownz, hb4⟩; obtain ⟨rz2, rzc2, rfl⟩ := owns_shape hownz; have hIz2 := ints_of_owns1 HZ.out hownz; replace HB := hid (HB.out.trans (hb4.mono HB.out.size)); replace hSr := hSr.grown hb4; replace hCr3 := hCr3.grown hb4; replace y0 := cell_grown hb4 y0; replace y1 := cell_grown hb4 y1; replace y2 := cell_grown hb4 y2; replace y3 := cell_grown hb4 y3; replace x0 := cell_grown hb4 x0; replace x1 := cell_grown hb4 x1; replace x2 := cell_grown hb4 x2; replace hS0 := hS0.grown hb4; replace hC0 := hC0.grown hb4) | (go_at_call 38; refine (prove_any L len long short due delay C Z2 n rc m rd vn rzc2 ra rb rz2 _ HL.out hn hSr HC.out hm hCr3 HZ.out (by unfold maxLen; omega) hIz2).mono ?_; rw [HPV.out]; rintro e w5 ⟨rfl, hb5⟩; replace HB := hid (HB.out.trans (hb5.mono HB.out.size)); replace y0 := cell_grown hb5 y0; replace y1 := cell_grown hb5 y1; replace y2 := cell_grown hb5 y2; replace y3 := cell_grown hb5 y3; replace x0 := cell_grown hb5 x0; replace x1 := cell_grown hb5 x1; replace x2 := cell_grown hb5 x2; replace hS0 := hS0.grown hb5; replace hC0 := hC0.grown hb5) | (go_at_call 16; refine (awake_any _).mono ?_; rintro e w6 ⟨rfl, hb6⟩; replace HB := hid (HB.out.trans (hb6.mono HB.out.size)); replace y0 := cell_grown hb6 y0; replace y1 := cell_grown hb6 y1; replace y2 := cell_grown hb6 y2; replace y3 := cell_grown hb6 y3; replace x0 := cell_grown hb6 x0; replace x1 := cell_grown hb6 x1; replace x2 := cell_grown hb6 x2; replace hS0 := hS0.grown hb6; replace hC0 := hC0.grown hb6))
                  go_wp2
                  go_ret
                  exact ⟨rfl, HB.out⟩
            · clear hownz hb11 K10
              go_wp2_with fail
              refine (takesR_all L len long short n cap a w11 HL.out hn60 hS0 HOK.out).mono ?_
              rw [HTT.out, HQ.out]
              rintro e w8 ⟨rt, rtc, rfl, _, hb8, hRT⟩
              replace y0 := cell_grown hb8 y0
              replace y1 := cell_grown hb8 y1
              replace y2 := cell_grown hb8 y2
              replace y3 := cell_grown hb8 y3
              replace x0 := cell_grown hb8 x0
              replace x1 := cell_grown hb8 x1
              replace x2 := cell_grown hb8 x2
              replace hS0 := hS0.grown hb8
              replace hC0 := hC0.grown hb8
              replace HB := hid (HB.out.trans (hb8.mono HB.out.size))
              replace hIz := hIz.grown hb8
              clear hb8
              go_wp2_with fail
              refine (listed_any Zr due delay ca rt rz m cc q rtc vn rzc w8 HZ.out (by omega) hIz (by omega) (by omega)).mono ?_
              rintro e w9 ⟨rfl, hb9⟩
              replace y0 := cell_grown hb9 y0
              replace y1 := cell_grown hb9 y1
              replace y2 := cell_grown hb9 y2
              replace y3 := cell_grown hb9 y3
              replace x0 := cell_grown hb9 x0
              replace x1 := cell_grown hb9 x1
              replace x2 := cell_grown hb9 x2
              replace hS0 := hS0.grown hb9
              replace hC0 := hC0.grown hb9
              replace HB := hid (HB.out.trans (hb9.mono HB.out.size))
              replace hIz := hIz.grown hb9
              replace hRT := hRT.grown hb9
              clear hb9
              cases hst : staffsM m q Zr
              · have HST := hid hst
                clear hst
                have HPV : Hid (proveM len long short due delay L C Zr = false) := hid (by rw [prove_ok HFV.out, HC.out, HTT.out, HQ.out, HST.out]; rfl)
                have hBd : Below w9.heap.size w9 w9.drew := (Below.refl _ _).drew
                go_wp2_with fail
                go_region_held3 (fun w' : World => w'.cell? ⟨w.heap.size, 0, none⟩ = some (.int .i64 len) ∧ w'.cell? ⟨w.heap.size, 1, none⟩ = some (.slice a n cap) ∧ w'.cell? ⟨w.heap.size, 2, none⟩ = some (.int .i64 long) ∧ w'.cell? ⟨w.heap.size, 3, none⟩ = some (.int .i64 short) ∧ w'.cell? ⟨w.heap.size + 1, 0, none⟩ = some (.slice ca m cc) ∧ w'.cell? ⟨w.heap.size + 1, 1, none⟩ = some (.int .i64 due) ∧ w'.cell? ⟨w.heap.size + 1, 2, none⟩ = some (.int .i64 delay)) (exact ⟨y0, y1, y2, y3, x0, x1, x2⟩) (first | (go_at_call 18; replace y0 := cell_grown hBd y0; replace y1 := cell_grown hBd y1; replace y2 := cell_grown hBd y2; replace y3 := cell_grown hBd y3; replace x0 := cell_grown hBd x0; replace x1 := cell_grown hBd x1; replace x2 := cell_grown hBd x2; replace hS0 := hS0.grown hBd; replace hC0 := hC0.grown hBd; replace hIz := hIz.grown hBd; refine (sitting_any L len long short n cap a _ HL.out hn60 hS0).mono ?_; rintro e w2 ⟨ra, rc, rfl, hSr, hb2⟩; replace HB := hid (HB.out.trans (hBd.mono HB.out.size)); replace HB := hid (HB.out.trans (hb2.mono HB.out.size)); replace y0 := cell_grown hb2 y0; replace y1 := cell_grown hb2 y1; replace y2 := cell_grown hb2 y2; replace y3 := cell_grown hb2 y3; replace x0 := cell_grown hb2 x0; replace x1 := cell_grown hb2 x1; replace x2 := cell_grown hb2 x2; replace hS0 := hS0.grown hb2; replace hC0 := hC0.grown hb2; replace hIz := hIz.grown hb2) | (go_at_call 20; refine (office_any C due delay m cc ca _ HC.out (by omega) hC0).mono ?_; rintro e w3 ⟨rb, rd, rfl, hCr3, hb3⟩; replace HB := hid (HB.out.trans (hb3.mono HB.out.size)); replace hSr := hSr.grown hb3; replace y0 := cell_grown hb3 y0; replace y1 := cell_grown hb3 y1; replace y2 := cell_grown hb3 y2; replace y3 := cell_grown hb3 y3; replace x0 := cell_grown hb3 x0; replace x1 := cell_grown hb3 x1; replace x2 := cell_grown hb3 x2; replace hS0 := hS0.grown hb3; replace hC0 := hC0.grown hb3; replace hIz := hIz.grown hb3) | (go_at_call 35; refine (list_any Zr vn rzc rz _ HZ.out (by omega) hIz HZA.out).mono ?_; rintro e w4 ⟨vz, rfl, hownz, hb4⟩; obtain ⟨rz2, rzc2, rfl⟩ := owns_shape hownz; have hIz2 := ints_of_owns1 HZ.out hownz; replace HB := hid (HB.out.trans (hb4.mono HB.out.size)); replace hSr := hSr.grown hb4; replace hCr3 := hCr3.grown hb4; replace y0 := cell_grown hb4 y0; replace y1 := cell_grown hb4 y1; replace y2 := cell_grown hb4 y2; replace y3 := cell_grown hb4 y3; replace x0 := cell_grown hb4 x0; replace x1 := cell_grown hb4 x1; replace x2 := cell_grown hb4 x2; replace hS0 := hS0.grown hb4; replace hC0 := hC0.grown hb4) | (go_at_call 38; refine (prove_any L len long short due delay C Zr n rc m rd vn rzc2 ra rb rz2 _ HL.out hn hSr HC.out hm hCr3 HZ.out (by unfold maxLen; omega) hIz2).mono ?_; rw [HPV.out]; rintro e w5 ⟨rfl, hb5⟩; replace HB := hid (HB.out.trans (hb5.mono HB.out.size)); replace y0 := cell_grown hb5 y0; replace y1 := cell_grown hb5 y1; replace y2 := cell_grown hb5 y2; replace y3 := cell_grown hb5 y3; replace x0 := cell_grown hb5 x0; replace x1 := cell_grown hb5 x1; replace x2 := cell_grown hb5 x2; replace hS0 := hS0.grown hb5; replace hC0 := hC0.grown hb5) | (go_at_call 16; refine (awake_any _).mono ?_; rintro e w6 ⟨rfl, hb6⟩; replace HB := hid (HB.out.trans (hb6.mono HB.out.size)); replace y0 := cell_grown hb6 y0; replace y1 := cell_grown hb6 y1; replace y2 := cell_grown hb6 y2; replace y3 := cell_grown hb6 y3; replace x0 := cell_grown hb6 x0; replace x1 := cell_grown hb6 x1; replace x2 := cell_grown hb6 x2; replace hS0 := hS0.grown hb6; replace hC0 := hC0.grown hb6))
                go_wp2
                go_ret
                exact ⟨rfl, HB.out⟩
              · have HST := hid hst
                have hzq : vn = q := by rw [← HZ.out]; exact (staffs_at hst).1
                have HQ2 : Hid (T.length = vn) := hid (by rw [HQ.out, hzq])
                have HPV0 : Hid (proveM len long short due delay L C Zr = (List.range vn).all fun k => rotaOk due delay C T (Zr.map Int.toNat) k) := hid (by rw [prove_ok HFV.out, HC.out, HTT.out, HQ.out, HST.out, Bool.true_and, HZ.out])
                have hrange := staffs_at hst
                have HRG : Hid (∀ j, j < vn → 0 ≤ Zr.getD j 0 ∧ Zr.getD j 0 < m) := hid (fun j hj => hrange.2 j (by rw [HZ.out]; exact hj))
                clear hst hrange HST HQ
                subst hzq
                go_wp2_with fail
                refine (isRota_any C T Zr due delay m cc vn rtc rzc ca rt rz w9 HC.out hc5 hC0 HBC.out HQ2.out h40 hRT (fun k hk => by rw [← HTT.out]; exact takesOf_bd HOK.out (by rw [HTT.out, HQ2.out]; exact hk)) HZ.out hIz HCAP.out HRG.out hdueb hdelb).mono ?_
                obtain ⟨b, hb⟩ : ∃ b, ((List.range vn).all fun k => rotaOk due delay C T (Zr.map Int.toNat) k) = b := ⟨_, rfl⟩
                have HPV : Hid (proveM len long short due delay L C Zr = b) := hid (by rw [HPV0.out]; exact hb)
                rw [hb]
                clear hb
                rintro e w10 ⟨rfl, hb10⟩
                replace y0 := cell_grown hb10 y0
                replace y1 := cell_grown hb10 y1
                replace y2 := cell_grown hb10 y2
                replace y3 := cell_grown hb10 y3
                replace x0 := cell_grown hb10 x0
                replace x1 := cell_grown hb10 x1
                replace x2 := cell_grown hb10 x2
                replace hS0 := hS0.grown hb10
                replace hC0 := hC0.grown hb10
                replace HB := hid (HB.out.trans (hb10.mono HB.out.size))
                replace hIz := hIz.grown hb10
                clear hb10
                cases b
                all_goals
                  have hBd : Below w10.heap.size w10 w10.drew := (Below.refl _ _).drew
                  go_wp2_with fail
                  go_region_held3 (fun w' : World => w'.cell? ⟨w.heap.size, 0, none⟩ = some (.int .i64 len) ∧ w'.cell? ⟨w.heap.size, 1, none⟩ = some (.slice a n cap) ∧ w'.cell? ⟨w.heap.size, 2, none⟩ = some (.int .i64 long) ∧ w'.cell? ⟨w.heap.size, 3, none⟩ = some (.int .i64 short) ∧ w'.cell? ⟨w.heap.size + 1, 0, none⟩ = some (.slice ca m cc) ∧ w'.cell? ⟨w.heap.size + 1, 1, none⟩ = some (.int .i64 due) ∧ w'.cell? ⟨w.heap.size + 1, 2, none⟩ = some (.int .i64 delay)) (exact ⟨y0, y1, y2, y3, x0, x1, x2⟩) (first | (go_at_call 18; replace y0 := cell_grown hBd y0; replace y1 := cell_grown hBd y1; replace y2 := cell_grown hBd y2; replace y3 := cell_grown hBd y3; replace x0 := cell_grown hBd x0; replace x1 := cell_grown hBd x1; replace x2 := cell_grown hBd x2; replace hS0 := hS0.grown hBd; replace hC0 := hC0.grown hBd; replace hIz := hIz.grown hBd; refine (sitting_any L len long short n cap a _ HL.out hn60 hS0).mono ?_; rintro e w2 ⟨ra, rc, rfl, hSr, hb2⟩; replace HB := hid (HB.out.trans (hBd.mono HB.out.size)); replace HB := hid (HB.out.trans (hb2.mono HB.out.size)); replace y0 := cell_grown hb2 y0; replace y1 := cell_grown hb2 y1; replace y2 := cell_grown hb2 y2; replace y3 := cell_grown hb2 y3; replace x0 := cell_grown hb2 x0; replace x1 := cell_grown hb2 x1; replace x2 := cell_grown hb2 x2; replace hS0 := hS0.grown hb2; replace hC0 := hC0.grown hb2; replace hIz := hIz.grown hb2) | (go_at_call 20; refine (office_any C due delay m cc ca _ HC.out (by omega) hC0).mono ?_; rintro e w3 ⟨rb, rd, rfl, hCr3, hb3⟩; replace HB := hid (HB.out.trans (hb3.mono HB.out.size)); replace hSr := hSr.grown hb3; replace y0 := cell_grown hb3 y0; replace y1 := cell_grown hb3 y1; replace y2 := cell_grown hb3 y2; replace y3 := cell_grown hb3 y3; replace x0 := cell_grown hb3 x0; replace x1 := cell_grown hb3 x1; replace x2 := cell_grown hb3 x2; replace hS0 := hS0.grown hb3; replace hC0 := hC0.grown hb3; replace hIz := hIz.grown hb3) | (go_at_call 35; refine (list_any Zr vn rzc rz _ HZ.out (by omega) hIz HZA.out).mono ?_; rintro e w4 ⟨vz, rfl, hownz, hb4⟩; obtain ⟨rz2, rzc2, rfl⟩ := owns_shape hownz; have hIz2 := ints_of_owns1 HZ.out hownz; replace HB := hid (HB.out.trans (hb4.mono HB.out.size)); replace hSr := hSr.grown hb4; replace hCr3 := hCr3.grown hb4; replace y0 := cell_grown hb4 y0; replace y1 := cell_grown hb4 y1; replace y2 := cell_grown hb4 y2; replace y3 := cell_grown hb4 y3; replace x0 := cell_grown hb4 x0; replace x1 := cell_grown hb4 x1; replace x2 := cell_grown hb4 x2; replace hS0 := hS0.grown hb4; replace hC0 := hC0.grown hb4) | (go_at_call 38; refine (prove_any L len long short due delay C Zr n rc m rd vn rzc2 ra rb rz2 _ HL.out hn hSr HC.out hm hCr3 HZ.out (by unfold maxLen; omega) hIz2).mono ?_; rw [HPV.out]; rintro e w5 ⟨rfl, hb5⟩; replace HB := hid (HB.out.trans (hb5.mono HB.out.size)); replace y0 := cell_grown hb5 y0; replace y1 := cell_grown hb5 y1; replace y2 := cell_grown hb5 y2; replace y3 := cell_grown hb5 y3; replace x0 := cell_grown hb5 x0; replace x1 := cell_grown hb5 x1; replace x2 := cell_grown hb5 x2; replace hS0 := hS0.grown hb5; replace hC0 := hC0.grown hb5) | (go_at_call 16; refine (awake_any _).mono ?_; rintro e w6 ⟨rfl, hb6⟩; replace HB := hid (HB.out.trans (hb6.mono HB.out.size)); replace y0 := cell_grown hb6 y0; replace y1 := cell_grown hb6 y1; replace y2 := cell_grown hb6 y2; replace y3 := cell_grown hb6 y3; replace x0 := cell_grown hb6 x0; replace x1 := cell_grown hb6 x1; replace x2 := cell_grown hb6 x2; replace hS0 := hS0.grown hb6; replace hC0 := hC0.grown hb6))
                  go_wp2
                  go_ret
                  exact ⟨rfl, HB.out⟩
        · subst her
          clear hRnil hRI hRn
          go_wp2_with fail
          refine (takesR_all L len long short n cap a w10 HL.out hn60 hS0 HOK.out).mono ?_
          rw [HTT.out, HQ.out]
          rintro e w8 ⟨rt, rtc, rfl, _, hb8, hRT⟩
          replace y0 := cell_grown hb8 y0
          replace y1 := cell_grown hb8 y1
          replace y2 := cell_grown hb8 y2
          replace y3 := cell_grown hb8 y3
          replace x0 := cell_grown hb8 x0
          replace x1 := cell_grown hb8 x1
          replace x2 := cell_grown hb8 x2
          replace hS0 := hS0.grown hb8
          replace hC0 := hC0.grown hb8
          replace HB := hid (HB.out.trans (hb8.mono HB.out.size))
          replace hI0 := hI0.grown hb8
          clear hb8
          go_wp2_with fail
          refine (listed_any Z due delay ca rt za m cc q rtc zn zc w8 HZ.out (by omega) hI0 (by omega) (by omega)).mono ?_
          rintro e w9 ⟨rfl, hb9⟩
          replace y0 := cell_grown hb9 y0
          replace y1 := cell_grown hb9 y1
          replace y2 := cell_grown hb9 y2
          replace y3 := cell_grown hb9 y3
          replace x0 := cell_grown hb9 x0
          replace x1 := cell_grown hb9 x1
          replace x2 := cell_grown hb9 x2
          replace hS0 := hS0.grown hb9
          replace hC0 := hC0.grown hb9
          replace HB := hid (HB.out.trans (hb9.mono HB.out.size))
          replace hI0 := hI0.grown hb9
          replace hRT := hRT.grown hb9
          clear hb9
          cases hst : staffsM m q Z
          · have HST := hid hst
            clear hst
            have HPV : Hid (proveM len long short due delay L C Z = false) := hid (by rw [prove_ok HFV.out, HC.out, HTT.out, HQ.out, HST.out]; rfl)
            have hBd : Below w9.heap.size w9 w9.drew := (Below.refl _ _).drew
            go_wp2_with fail
            go_region_held3 (fun w' : World => w'.cell? ⟨w.heap.size, 0, none⟩ = some (.int .i64 len) ∧ w'.cell? ⟨w.heap.size, 1, none⟩ = some (.slice a n cap) ∧ w'.cell? ⟨w.heap.size, 2, none⟩ = some (.int .i64 long) ∧ w'.cell? ⟨w.heap.size, 3, none⟩ = some (.int .i64 short) ∧ w'.cell? ⟨w.heap.size + 1, 0, none⟩ = some (.slice ca m cc) ∧ w'.cell? ⟨w.heap.size + 1, 1, none⟩ = some (.int .i64 due) ∧ w'.cell? ⟨w.heap.size + 1, 2, none⟩ = some (.int .i64 delay)) (exact ⟨y0, y1, y2, y3, x0, x1, x2⟩) (first | (go_at_call 18; replace y0 := cell_grown hBd y0; replace y1 := cell_grown hBd y1; replace y2 := cell_grown hBd y2; replace y3 := cell_grown hBd y3; replace x0 := cell_grown hBd x0; replace x1 := cell_grown hBd x1; replace x2 := cell_grown hBd x2; replace hS0 := hS0.grown hBd; replace hC0 := hC0.grown hBd; replace hI0 := hI0.grown hBd; refine (sitting_any L len long short n cap a _ HL.out hn60 hS0).mono ?_; rintro e w2 ⟨ra, rc, rfl, hSr, hb2⟩; replace HB := hid (HB.out.trans (hBd.mono HB.out.size)); replace HB := hid (HB.out.trans (hb2.mono HB.out.size)); replace y0 := cell_grown hb2 y0; replace y1 := cell_grown hb2 y1; replace y2 := cell_grown hb2 y2; replace y3 := cell_grown hb2 y3; replace x0 := cell_grown hb2 x0; replace x1 := cell_grown hb2 x1; replace x2 := cell_grown hb2 x2; replace hS0 := hS0.grown hb2; replace hC0 := hC0.grown hb2; replace hI0 := hI0.grown hb2) | (go_at_call 20; refine (office_any C due delay m cc ca _ HC.out (by omega) hC0).mono ?_; rintro e w3 ⟨rb, rd, rfl, hCr3, hb3⟩; replace HB := hid (HB.out.trans (hb3.mono HB.out.size)); replace hSr := hSr.grown hb3; replace y0 := cell_grown hb3 y0; replace y1 := cell_grown hb3 y1; replace y2 := cell_grown hb3 y2; replace y3 := cell_grown hb3 y3; replace x0 := cell_grown hb3 x0; replace x1 := cell_grown hb3 x1; replace x2 := cell_grown hb3 x2; replace hS0 := hS0.grown hb3; replace hC0 := hC0.grown hb3; replace hI0 := hI0.grown hb3) | (go_at_call 35; refine (list_any Z zn zc za _ HZ.out (by omega) hI0 HZA.out).mono ?_; rintro e w4 ⟨vz, rfl, hownz, hb4⟩; obtain ⟨rz2, rzc2, rfl⟩ := owns_shape hownz; have hIz2 := ints_of_owns1 HZ.out hownz; replace HB := hid (HB.out.trans (hb4.mono HB.out.size)); replace hSr := hSr.grown hb4; replace hCr3 := hCr3.grown hb4; replace y0 := cell_grown hb4 y0; replace y1 := cell_grown hb4 y1; replace y2 := cell_grown hb4 y2; replace y3 := cell_grown hb4 y3; replace x0 := cell_grown hb4 x0; replace x1 := cell_grown hb4 x1; replace x2 := cell_grown hb4 x2; replace hS0 := hS0.grown hb4; replace hC0 := hC0.grown hb4) | (go_at_call 38; refine (prove_any L len long short due delay C Z n rc m rd zn rzc2 ra rb rz2 _ HL.out hn hSr HC.out hm hCr3 HZ.out (by unfold maxLen; omega) hIz2).mono ?_; rw [HPV.out]; rintro e w5 ⟨rfl, hb5⟩; replace HB := hid (HB.out.trans (hb5.mono HB.out.size)); replace y0 := cell_grown hb5 y0; replace y1 := cell_grown hb5 y1; replace y2 := cell_grown hb5 y2; replace y3 := cell_grown hb5 y3; replace x0 := cell_grown hb5 x0; replace x1 := cell_grown hb5 x1; replace x2 := cell_grown hb5 x2; replace hS0 := hS0.grown hb5; replace hC0 := hC0.grown hb5) | (go_at_call 16; refine (awake_any _).mono ?_; rintro e w6 ⟨rfl, hb6⟩; replace HB := hid (HB.out.trans (hb6.mono HB.out.size)); replace y0 := cell_grown hb6 y0; replace y1 := cell_grown hb6 y1; replace y2 := cell_grown hb6 y2; replace y3 := cell_grown hb6 y3; replace x0 := cell_grown hb6 x0; replace x1 := cell_grown hb6 x1; replace x2 := cell_grown hb6 x2; replace hS0 := hS0.grown hb6; replace hC0 := hC0.grown hb6))
            go_wp2
            go_ret
            exact ⟨rfl, HB.out⟩
          · have HST := hid hst
            have hzq : zn = q := by rw [← HZ.out]; exact (staffs_at hst).1
            have HQ2 : Hid (T.length = zn) := hid (by rw [HQ.out, hzq])
            have HPV0 : Hid (proveM len long short due delay L C Z = (List.range zn).all fun k => rotaOk due delay C T (Z.map Int.toNat) k) := hid (by rw [prove_ok HFV.out, HC.out, HTT.out, HQ.out, HST.out, Bool.true_and, HZ.out])
            have hrange := staffs_at hst
            have HRG : Hid (∀ j, j < zn → 0 ≤ Z.getD j 0 ∧ Z.getD j 0 < m) := hid (fun j hj => hrange.2 j (by rw [HZ.out]; exact hj))
            clear hst hrange HST HQ
            subst hzq
            go_wp2_with fail
            refine (isRota_any C T Z due delay m cc zn rtc zc ca rt za w9 HC.out hc5 hC0 HBC.out HQ2.out h40 hRT (fun k hk => by rw [← HTT.out]; exact takesOf_bd HOK.out (by rw [HTT.out, HQ2.out]; exact hk)) HZ.out hI0 HCAP.out HRG.out hdueb hdelb).mono ?_
            obtain ⟨b, hb⟩ : ∃ b, ((List.range zn).all fun k => rotaOk due delay C T (Z.map Int.toNat) k) = b := ⟨_, rfl⟩
            have HPV : Hid (proveM len long short due delay L C Z = b) := hid (by rw [HPV0.out]; exact hb)
            rw [hb]
            clear hb
            rintro e w10 ⟨rfl, hb10⟩
            replace y0 := cell_grown hb10 y0
            replace y1 := cell_grown hb10 y1
            replace y2 := cell_grown hb10 y2
            replace y3 := cell_grown hb10 y3
            replace x0 := cell_grown hb10 x0
            replace x1 := cell_grown hb10 x1
            replace x2 := cell_grown hb10 x2
            replace hS0 := hS0.grown hb10
            replace hC0 := hC0.grown hb10
            replace HB := hid (HB.out.trans (hb10.mono HB.out.size))
            replace hI0 := hI0.grown hb10
            clear hb10
            cases b
            all_goals
              have hBd : Below w10.heap.size w10 w10.drew := (Below.refl _ _).drew
              go_wp2_with fail
              go_region_held3 (fun w' : World => w'.cell? ⟨w.heap.size, 0, none⟩ = some (.int .i64 len) ∧ w'.cell? ⟨w.heap.size, 1, none⟩ = some (.slice a n cap) ∧ w'.cell? ⟨w.heap.size, 2, none⟩ = some (.int .i64 long) ∧ w'.cell? ⟨w.heap.size, 3, none⟩ = some (.int .i64 short) ∧ w'.cell? ⟨w.heap.size + 1, 0, none⟩ = some (.slice ca m cc) ∧ w'.cell? ⟨w.heap.size + 1, 1, none⟩ = some (.int .i64 due) ∧ w'.cell? ⟨w.heap.size + 1, 2, none⟩ = some (.int .i64 delay)) (exact ⟨y0, y1, y2, y3, x0, x1, x2⟩) (first | (go_at_call 18; replace y0 := cell_grown hBd y0; replace y1 := cell_grown hBd y1; replace y2 := cell_grown hBd y2; replace y3 := cell_grown hBd y3; replace x0 := cell_grown hBd x0; replace x1 := cell_grown hBd x1; replace x2 := cell_grown hBd x2; replace hS0 := hS0.grown hBd; replace hC0 := hC0.grown hBd; replace hI0 := hI0.grown hBd; refine (sitting_any L len long short n cap a _ HL.out hn60 hS0).mono ?_; rintro e w2 ⟨ra, rc, rfl, hSr, hb2⟩; replace HB := hid (HB.out.trans (hBd.mono HB.out.size)); replace HB := hid (HB.out.trans (hb2.mono HB.out.size)); replace y0 := cell_grown hb2 y0; replace y1 := cell_grown hb2 y1; replace y2 := cell_grown hb2 y2; replace y3 := cell_grown hb2 y3; replace x0 := cell_grown hb2 x0; replace x1 := cell_grown hb2 x1; replace x2 := cell_grown hb2 x2; replace hS0 := hS0.grown hb2; replace hC0 := hC0.grown hb2; replace hI0 := hI0.grown hb2) | (go_at_call 20; refine (office_any C due delay m cc ca _ HC.out (by omega) hC0).mono ?_; rintro e w3 ⟨rb, rd, rfl, hCr3, hb3⟩; replace HB := hid (HB.out.trans (hb3.mono HB.out.size)); replace hSr := hSr.grown hb3; replace y0 := cell_grown hb3 y0; replace y1 := cell_grown hb3 y1; replace y2 := cell_grown hb3 y2; replace y3 := cell_grown hb3 y3; replace x0 := cell_grown hb3 x0; replace x1 := cell_grown hb3 x1; replace x2 := cell_grown hb3 x2; replace hS0 := hS0.grown hb3; replace hC0 := hC0.grown hb3; replace hI0 := hI0.grown hb3) | (go_at_call 35; refine (list_any Z zn zc za _ HZ.out (by omega) hI0 HZA.out).mono ?_; rintro e w4 ⟨vz, rfl, hownz, hb4⟩; obtain ⟨rz2, rzc2, rfl⟩ := owns_shape hownz; have hIz2 := ints_of_owns1 HZ.out hownz; replace HB := hid (HB.out.trans (hb4.mono HB.out.size)); replace hSr := hSr.grown hb4; replace hCr3 := hCr3.grown hb4; replace y0 := cell_grown hb4 y0; replace y1 := cell_grown hb4 y1; replace y2 := cell_grown hb4 y2; replace y3 := cell_grown hb4 y3; replace x0 := cell_grown hb4 x0; replace x1 := cell_grown hb4 x1; replace x2 := cell_grown hb4 x2; replace hS0 := hS0.grown hb4; replace hC0 := hC0.grown hb4) | (go_at_call 38; refine (prove_any L len long short due delay C Z n rc m rd zn rzc2 ra rb rz2 _ HL.out hn hSr HC.out hm hCr3 HZ.out (by unfold maxLen; omega) hIz2).mono ?_; rw [HPV.out]; rintro e w5 ⟨rfl, hb5⟩; replace HB := hid (HB.out.trans (hb5.mono HB.out.size)); replace y0 := cell_grown hb5 y0; replace y1 := cell_grown hb5 y1; replace y2 := cell_grown hb5 y2; replace y3 := cell_grown hb5 y3; replace x0 := cell_grown hb5 x0; replace x1 := cell_grown hb5 x1; replace x2 := cell_grown hb5 x2; replace hS0 := hS0.grown hb5; replace hC0 := hC0.grown hb5) | (go_at_call 16; refine (awake_any _).mono ?_; rintro e w6 ⟨rfl, hb6⟩; replace HB := hid (HB.out.trans (hb6.mono HB.out.size)); replace y0 := cell_grown hb6 y0; replace y1 := cell_grown hb6 y1; replace y2 := cell_grown hb6 y2; replace y3 := cell_grown hb6 y3; replace x0 := cell_grown hb6 x0; replace x1 := cell_grown hb6 x1; replace x2 := cell_grown hb6 x2; replace hS0 := hS0.grown hb6; replace hC0 := hC0.grown hb6))
              go_wp2
              go_ret
              exact ⟨rfl, HB.out⟩
    · cases own
      all_goals
        have HPV : Hid (proveM len long short due delay L C Z = false) := hid (by unfold proveM; rw [decide_eq_false (by rw [HFV.out]; exact hf0)]; rfl)
        have hBd : Below w7.heap.size w7 w7.drew := (Below.refl _ _).drew
        go_wp2_with fail
        go_region_held3 (fun w' : World => w'.cell? ⟨w.heap.size, 0, none⟩ = some (.int .i64 len) ∧ w'.cell? ⟨w.heap.size, 1, none⟩ = some (.slice a n cap) ∧ w'.cell? ⟨w.heap.size, 2, none⟩ = some (.int .i64 long) ∧ w'.cell? ⟨w.heap.size, 3, none⟩ = some (.int .i64 short) ∧ w'.cell? ⟨w.heap.size + 1, 0, none⟩ = some (.slice ca m cc) ∧ w'.cell? ⟨w.heap.size + 1, 1, none⟩ = some (.int .i64 due) ∧ w'.cell? ⟨w.heap.size + 1, 2, none⟩ = some (.int .i64 delay)) (exact ⟨y0, y1, y2, y3, x0, x1, x2⟩) (first | (go_at_call 18; replace y0 := cell_grown hBd y0; replace y1 := cell_grown hBd y1; replace y2 := cell_grown hBd y2; replace y3 := cell_grown hBd y3; replace x0 := cell_grown hBd x0; replace x1 := cell_grown hBd x1; replace x2 := cell_grown hBd x2; replace hS0 := hS0.grown hBd; replace hC0 := hC0.grown hBd; replace hI0 := hI0.grown hBd; refine (sitting_any L len long short n cap a _ HL.out hn60 hS0).mono ?_; rintro e w2 ⟨ra, rc, rfl, hSr, hb2⟩; replace HB := hid (HB.out.trans (hBd.mono HB.out.size)); replace HB := hid (HB.out.trans (hb2.mono HB.out.size)); replace y0 := cell_grown hb2 y0; replace y1 := cell_grown hb2 y1; replace y2 := cell_grown hb2 y2; replace y3 := cell_grown hb2 y3; replace x0 := cell_grown hb2 x0; replace x1 := cell_grown hb2 x1; replace x2 := cell_grown hb2 x2; replace hS0 := hS0.grown hb2; replace hC0 := hC0.grown hb2; replace hI0 := hI0.grown hb2) | (go_at_call 20; refine (office_any C due delay m cc ca _ HC.out (by omega) hC0).mono ?_; rintro e w3 ⟨rb, rd, rfl, hCr3, hb3⟩; replace HB := hid (HB.out.trans (hb3.mono HB.out.size)); replace hSr := hSr.grown hb3; replace y0 := cell_grown hb3 y0; replace y1 := cell_grown hb3 y1; replace y2 := cell_grown hb3 y2; replace y3 := cell_grown hb3 y3; replace x0 := cell_grown hb3 x0; replace x1 := cell_grown hb3 x1; replace x2 := cell_grown hb3 x2; replace hS0 := hS0.grown hb3; replace hC0 := hC0.grown hb3; replace hI0 := hI0.grown hb3) | (go_at_call 35; refine (list_any Z zn zc za _ HZ.out (by omega) hI0 HZA.out).mono ?_; rintro e w4 ⟨vz, rfl, hownz, hb4⟩; obtain ⟨rz2, rzc2, rfl⟩ := owns_shape hownz; have hIz2 := ints_of_owns1 HZ.out hownz; replace HB := hid (HB.out.trans (hb4.mono HB.out.size)); replace hSr := hSr.grown hb4; replace hCr3 := hCr3.grown hb4; replace y0 := cell_grown hb4 y0; replace y1 := cell_grown hb4 y1; replace y2 := cell_grown hb4 y2; replace y3 := cell_grown hb4 y3; replace x0 := cell_grown hb4 x0; replace x1 := cell_grown hb4 x1; replace x2 := cell_grown hb4 x2; replace hS0 := hS0.grown hb4; replace hC0 := hC0.grown hb4) | (go_at_call 38; refine (prove_any L len long short due delay C Z n rc m rd zn rzc2 ra rb rz2 _ HL.out hn hSr HC.out hm hCr3 HZ.out (by unfold maxLen; omega) hIz2).mono ?_; rw [HPV.out]; rintro e w5 ⟨rfl, hb5⟩; replace HB := hid (HB.out.trans (hb5.mono HB.out.size)); replace y0 := cell_grown hb5 y0; replace y1 := cell_grown hb5 y1; replace y2 := cell_grown hb5 y2; replace y3 := cell_grown hb5 y3; replace x0 := cell_grown hb5 x0; replace x1 := cell_grown hb5 x1; replace x2 := cell_grown hb5 x2; replace hS0 := hS0.grown hb5; replace hC0 := hC0.grown hb5) | (go_at_call 16; refine (awake_any _).mono ?_; rintro e w6 ⟨rfl, hb6⟩; replace HB := hid (HB.out.trans (hb6.mono HB.out.size)); replace y0 := cell_grown hb6 y0; replace y1 := cell_grown hb6 y1; replace y2 := cell_grown hb6 y2; replace y3 := cell_grown hb6 y3; replace x0 := cell_grown hb6 x0; replace x1 := cell_grown hb6 x1; replace x2 := cell_grown hb6 x2; replace hS0 := hS0.grown hb6; replace hC0 := hC0.grown hb6))
        go_wp2
        go_ret
        exact ⟨rfl, HB.out⟩

end Go.Proofs.Ytgapbaelifcifaa
