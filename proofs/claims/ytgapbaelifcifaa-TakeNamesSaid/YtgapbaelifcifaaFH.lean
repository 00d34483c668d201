/- The law TakeDones: its walk. -/
import Derived.Test.YtgapbaelifcifaaFG
import Derived.Test.YtgapbaelifcifaaEA
import Derived.Test.YtgapbaelifcifaaCE
namespace Go.Proofs.Ytgapbaelifcifaa
open Go.RowKit

theorem done_one {len long short due delay : Int} {L : List (Int × Int)} {C : List (Int × Int × Int)} {Z : List Int} {R : List (Int × Int)} {w w' : World} {e : Ending} (h : DonePost len long short due delay L C Z R w e w') :
    ∃ va vn vc, e = .returned (.tuple #[.slice va vn vc, .int .i64 (doneErr len long short due delay L C Z R)]) ∧ Below w.heap.size w w' ∧ Hid ((doneErr len long short due delay L C Z R ≠ 0 → vn = 0) ∧ (doneErr len long short due delay L C Z R = 0 → vn = Z.length ∧ Ints w' va (endsM (takesOf len long short L) R))) := by
  obtain ⟨hb, ⟨h1, rfl⟩ | ⟨h1, va, vc, rfl, hI⟩⟩ := h
  · exact ⟨none, 0, 0, rfl, hb, fun _ => rfl, fun h => absurd h h1⟩
  · exact ⟨va, _, vc, by rw [h1], hb, fun h => absurd h1 h, fun _ => ⟨rfl, hI⟩⟩

theorem fault_ok {len long short due delay : Int} {L : List (Int × Int)} {C : List (Int × Int × Int)} (h : faultM len long short due delay L C = 0) : sitErr len long short L = 0 ∧ offOk due delay C = true := by
  unfold faultM at h
  split at h
  · next h0 =>
    refine ⟨h0, ?_⟩
    split at h
    · assumption
    · omega
  · next h0 => exact absurd h h0

theorem real_bd {C : List (Int × Int × Int)} {Z : List Int} {R : List (Int × Int)} {due delay : Int} {q : Nat} (ho : offOk due delay C = true) (hs : staffsM C.length q Z = true) (hr : realsM C Z delay R = true) :
    ∀ k, k < R.length → (0 ≤ (R.getD k (0, 0)).1 ∧ (R.getD k (0, 0)).1 ≤ 20) ∧ 0 ≤ (R.getD k (0, 0)).2 ∧ (R.getD k (0, 0)).2 ≤ 36000 := by
  intro k hk
  obtain ⟨r1, r2⟩ := reals_at hr
  obtain ⟨-, s2⟩ := staffs_at hs
  obtain ⟨-, -, o3, o4⟩ := offOk_parts ho
  have h1 := r2 k hk
  have h2 := s2 k (by omega)
  have h3 := crewOk_at o4 (i := (Z.getD k 0).toNat) (by omega)
  unfold realOk at h1
  generalize C.getD (Z.getD k 0).toNat (0, 0, 0) = x at h1 h3
  have h3' : (0 ≤ x.1 ∧ x.1 ≤ x.2.1) ∧ x.2.1 ≤ 20 ∧ 0 ≤ x.2.2 ∧ x.2.2 ≤ 36000 := by simpa [repOk, inB] using h3
  simp only [inB, Bool.and_eq_true, decide_eq_true_eq] at h1
  omega

set_option maxRecDepth 100000 in
set_option maxHeartbeats 40000000 in
theorem takeDones_any (L : List (Int × Int)) (len long short : Int) (n cap : Nat) (a : Option Addr) (C : List (Int × Int × Int)) (due delay : Int) (m cc : Nat) (ca : Option Addr) (Z : List Int) (zn zc : Nat) (za : Option Addr) (R : List (Int × Int)) (xn xc : Nat) (xa : Option Addr) (w : World)
    (hL : L.length = n) (hn : n ≤ maxLen) (hS : Spans w a L) (hC : C.length = m) (hm : m ≤ maxLen) (hCr : Crew w ca C) (hZ : Z.length = zn) (hzn : zn ≤ maxLen) (hI : Ints w za Z) (hza : za = none → zc = 0) (hR : R.length = xn) (hxn : xn ≤ maxLen) (hSR : Spans w xa R) :
    Calls Try.prog 6 #[.agg #[.int .i64 len, .slice a n cap, .int .i64 long, .int .i64 short], .agg #[.slice ca m cc, .int .i64 due, .int .i64 delay], .slice za zn zc, .slice xa xn xc] w fun e w' => e = .returned (.bool true) ∧ Below w.heap.size w w' := by
  have hn' := hn
  have hm' := hm
  have hz' := hzn
  have hx' := hxn
  unfold maxLen at hn' hm' hz' hx'
  have HL := hid hL
  have HC := hid hC
  have HZ := hid hZ
  have HR := hid hR
  have HZA := hid hza
  clear hL hC hZ hR hza
  go_enter Try.func6, Try.ntmps6
  go_wp2_with fail
  obtain ⟨W0, hW0⟩ : ∃ W0, W0 = (w.alloc (.cells #[.int .i64 len, .slice a n cap, .int .i64 long, .int .i64 short] 24)).alloc (.cells #[.slice ca m cc, .int .i64 due, .int .i64 delay] 27) := ⟨_, rfl⟩
  have hB0 : Below w.heap.size w W0 := by rw [hW0]; exact ((Below.refl _ w).alloc (Nat.le_refl _) _).alloc (by simp) _
  have z0 : W0.heap.size = w.heap.size + 2 := by rw [hW0]; simp
  have y0 : W0.cell? ⟨w.heap.size, 0, none⟩ = some (.int .i64 len) := by rw [hW0]; simp [go_sem]
  have y1 : W0.cell? ⟨w.heap.size, 1, none⟩ = some (.slice a n cap) := by rw [hW0]; simp [go_sem]
  have y2 : W0.cell? ⟨w.heap.size, 2, none⟩ = some (.int .i64 long) := by rw [hW0]; simp [go_sem]
  have y3 : W0.cell? ⟨w.heap.size, 3, none⟩ = some (.int .i64 short) := by rw [hW0]; simp [go_sem]
  have x0 : W0.cell? ⟨w.heap.size + 1, 0, none⟩ = some (.slice ca m cc) := by rw [hW0]; simp [go_sem]
  have x1 : W0.cell? ⟨w.heap.size + 1, 1, none⟩ = some (.int .i64 due) := by rw [hW0]; simp [go_sem]
  have x2 : W0.cell? ⟨w.heap.size + 1, 2, none⟩ = some (.int .i64 delay) := by rw [hW0]; simp [go_sem]
  rw [← hW0]
  clear hW0
  have hS0 := hS.grown hB0
  have hC0 := hCr.grown hB0
  have hI0 := hI.grown hB0
  have hR0 := hSR.grown hB0
  refine (thin_any len long short due delay n cap m cc a ca W0 hn hm).mono ?_
  obtain ⟨th, hth⟩ : ∃ b, (decide (n ≤ 60) && decide (m ≤ 8)) = b := ⟨_, rfl⟩
  rw [hth]
  rintro e w1 ⟨rfl, hb1⟩
  replace y0 := cell_grown hb1 y0
  replace y1 := cell_grown hb1 y1
  replace y2 := cell_grown hb1 y2
  replace y3 := cell_grown hb1 y3
  replace x0 := cell_grown hb1 x0
  replace x1 := cell_grown hb1 x1
  replace x2 := cell_grown hb1 x2
  replace hS0 := hS0.grown hb1
  replace hC0 := hC0.grown hb1
  replace hI0 := hI0.grown hb1
  replace hR0 := hR0.grown hb1
  have HB := hid (hB0.trans (hb1.mono (by omega)))
  clear hb1 hB0 hS hCr hI hSR
  cases th
  · go_wp2_with fail
    refine (awake_any w1).mono ?_
    rintro e w' ⟨rfl, hb⟩
    go_wp2
    go_ret
    exact ⟨rfl, HB.out.trans (hb.mono HB.out.size)⟩
  · have hth' : n ≤ 60 ∧ m ≤ 8 := by simpa using hth
    clear hth
    obtain ⟨hn60, hm8⟩ := hth'
    by_cases hz45 : 45 < zn
    · have hzi : (45 : Int) < (zn : Int) := by omega
      go_wp2_with fail
      refine (awake_any w1).mono ?_
      rintro e w' ⟨rfl, hb⟩
      go_wp2
      go_ret
      exact ⟨rfl, HB.out.trans (hb.mono HB.out.size)⟩
    by_cases hx45 : 45 < xn
    · have hzi : ¬ (45 : Int) < (zn : Int) := by omega
      have hxi : (45 : Int) < (xn : Int) := by omega
      go_wp2_with fail
      refine (awake_any w1).mono ?_
      rintro e w' ⟨rfl, hb⟩
      go_wp2
      go_ret
      exact ⟨rfl, HB.out.trans (hb.mono HB.out.size)⟩
    have hzi : ¬ (45 : Int) < (zn : Int) := by omega
    have hxi : ¬ (45 : Int) < (xn : Int) := by omega
    go_wp2_with fail
    have hBd : Below w1.heap.size w1 w1.drew := (Below.refl _ _).drew
    obtain ⟨de, hde⟩ : ∃ d, doneErr len long short due delay L C Z R = d := ⟨_, rfl⟩
    have HDE := hid hde
    clear hde
    go_region_held3 (fun w' : World => w'.cell? ⟨w.heap.size, 0, none⟩ = some (.int .i64 len) ∧ w'.cell? ⟨w.heap.size, 1, none⟩ = some (.slice a n cap) ∧ w'.cell? ⟨w.heap.size, 2, none⟩ = some (.int .i64 long) ∧ w'.cell? ⟨w.heap.size, 3, none⟩ = some (.int .i64 short) ∧ w'.cell? ⟨w.heap.size + 1, 0, none⟩ = some (.slice ca m cc) ∧ w'.cell? ⟨w.heap.size + 1, 1, none⟩ = some (.int .i64 due) ∧ w'.cell? ⟨w.heap.size + 1, 2, none⟩ = some (.int .i64 delay)) (exact ⟨y0, y1, y2, y3, x0, x1, x2⟩) (first | (go_at_call 18; replace y0 := cell_grown hBd y0; replace y1 := cell_grown hBd y1; replace y2 := cell_grown hBd y2; replace y3 := cell_grown hBd y3; replace x0 := cell_grown hBd x0; replace x1 := cell_grown hBd x1; replace x2 := cell_grown hBd x2; replace hS0 := hS0.grown hBd; replace hC0 := hC0.grown hBd; replace hI0 := hI0.grown hBd; replace hR0 := hR0.grown hBd; refine (sitting_any L len long short n cap a _ HL.out hn60 hS0).mono ?_; rintro e w2 ⟨ra, rc, rfl, hSr, hb2⟩; replace HB := hid (HB.out.trans (hBd.mono HB.out.size)); replace HB := hid (HB.out.trans (hb2.mono HB.out.size)); replace y0 := cell_grown hb2 y0; replace y1 := cell_grown hb2 y1; replace y2 := cell_grown hb2 y2; replace y3 := cell_grown hb2 y3; replace x0 := cell_grown hb2 x0; replace x1 := cell_grown hb2 x1; replace x2 := cell_grown hb2 x2; replace hS0 := hS0.grown hb2; replace hC0 := hC0.grown hb2; replace hI0 := hI0.grown hb2; replace hR0 := hR0.grown hb2) | (go_at_call 20; refine (office_any C due delay m cc ca _ HC.out (by omega) hC0).mono ?_; rintro e w3 ⟨rb, rd, rfl, hCr3, hb3⟩; replace HB := hid (HB.out.trans (hb3.mono HB.out.size)); replace hSr := hSr.grown hb3; replace y0 := cell_grown hb3 y0; replace y1 := cell_grown hb3 y1; replace y2 := cell_grown hb3 y2; replace y3 := cell_grown hb3 y3; replace x0 := cell_grown hb3 x0; replace x1 := cell_grown hb3 x1; replace x2 := cell_grown hb3 x2; replace hS0 := hS0.grown hb3; replace hC0 := hC0.grown hb3; replace hI0 := hI0.grown hb3; replace hR0 := hR0.grown hb3) | (go_at_call 35; refine (list_any Z zn zc za _ HZ.out (by omega) hI0 HZA.out).mono ?_; rintro e w4 ⟨vz, rfl, hownz, hb4⟩; obtain ⟨rz, rzc, rfl⟩ := owns_shape hownz; have hIz := ints_of_owns1 HZ.out hownz; replace HB := hid (HB.out.trans (hb4.mono HB.out.size)); replace hSr := hSr.grown hb4; replace hCr3 := hCr3.grown hb4; replace y0 := cell_grown hb4 y0; replace y1 := cell_grown hb4 y1; replace y2 := cell_grown hb4 y2; replace y3 := cell_grown hb4 y3; replace x0 := cell_grown hb4 x0; replace x1 := cell_grown hb4 x1; replace x2 := cell_grown hb4 x2; replace hS0 := hS0.grown hb4; replace hC0 := hC0.grown hb4; replace hI0 := hI0.grown hb4; replace hR0 := hR0.grown hb4) | (go_at_call 40; refine (realsL_any R xn xc xa _ HR.out (by omega) hR0).mono ?_; rintro e w5 ⟨rx, rxc, rfl, hRx, hb5⟩; replace HB := hid (HB.out.trans (hb5.mono HB.out.size)); replace hSr := hSr.grown hb5; replace hCr3 := hCr3.grown hb5; replace hIz := hIz.grown hb5; replace y0 := cell_grown hb5 y0; replace y1 := cell_grown hb5 y1; replace y2 := cell_grown hb5 y2; replace y3 := cell_grown hb5 y3; replace x0 := cell_grown hb5 x0; replace x1 := cell_grown hb5 x1; replace x2 := cell_grown hb5 x2; replace hS0 := hS0.grown hb5; replace hC0 := hC0.grown hb5; replace hI0 := hI0.grown hb5; replace hR0 := hR0.grown hb5) | (go_at_call 39; refine (doneT_any L len long short due delay C Z R n rc m rd zn rzc xn rxc ra rb rz rx _ HL.out hn hSr HC.out hm hCr3 HZ.out (by omega) hIz HR.out (by omega) hRx).mono ?_; intro e w6 hpost; obtain ⟨va, vn, vc, rfl, hb6, HV⟩ := done_one hpost; rw [HDE.out] at HV ⊢; replace HB := hid (HB.out.trans (hb6.mono HB.out.size)); replace y0 := cell_grown hb6 y0; replace y1 := cell_grown hb6 y1; replace y2 := cell_grown hb6 y2; replace y3 := cell_grown hb6 y3; replace x0 := cell_grown hb6 x0; replace x1 := cell_grown hb6 x1; replace x2 := cell_grown hb6 x2; replace hS0 := hS0.grown hb6; replace hC0 := hC0.grown hb6; replace hI0 := hI0.grown hb6; replace hR0 := hR0.grown hb6))
    clear hpost hb2 hb3 hb4 hb5 hb6 hSr hCr3 hIz hRx hownz hBd
    obtain ⟨fv, hfv⟩ : ∃ f, faultM len long short due delay L C = f := ⟨_, rfl⟩
    have HFV := hid hfv
    go_wp2_with fail
    refine (faultL_any L C len long short due delay n cap m cc a ca w6 HL.out hn60 hS0 HC.out hm hC0).mono ?_
    rw [hfv]
    rintro e w7 ⟨rfl, hb7⟩
    clear hfv
    replace y0 := cell_grown hb7 y0
    replace y1 := cell_grown hb7 y1
    replace y2 := cell_grown hb7 y2
    replace y3 := cell_grown hb7 y3
    replace x0 := cell_grown hb7 x0
    replace x1 := cell_grown hb7 x1
    replace x2 := cell_grown hb7 x2
    replace hS0 := hS0.grown hb7
    replace hC0 := hC0.grown hb7
    replace hI0 := hI0.grown hb7
    replace hR0 := hR0.grown hb7
    replace HB := hid (HB.out.trans (hb7.mono HB.out.size))
    replace HV := hid (And.intro HV.out.1 (fun h => And.intro (HV.out.2 h).1 ((HV.out.2 h).2.grown hb7)))
    clear hb7
    by_cases hf0 : fv = 0
    · subst hf0
      obtain ⟨hs0, ho0⟩ := fault_ok HFV.out
      obtain ⟨hok, h40⟩ := sitErr_zero hs0
      have HO := hid ho0
      have HOK := hid hok
      have hc5 : m ≤ 5 := by have := (offOk_parts ho0).1; rw [HC.out] at this; omega
      obtain ⟨T, hTT⟩ : ∃ T, takesOf len long short L = T := ⟨_, rfl⟩
      obtain ⟨q, hq⟩ : ∃ q, T.length = q := ⟨_, rfl⟩
      have HTT := hid hTT
      have HQ := hid hq
      rw [hTT, hq] at h40
      clear hs0 ho0 hok hTT hq
      go_wp2_with fail
      refine (takesR_all L len long short n cap a w7 HL.out hn60 hS0 HOK.out).mono ?_
      rw [HTT.out, HQ.out]
      rintro e w8 ⟨rt, rtc, rfl, _, hb8, hRT⟩
      replace y0 := cell_grown hb8 y0
      replace y1 := cell_grown hb8 y1
      replace y2 := cell_grown hb8 y2
      replace y3 := cell_grown hb8 y3
      replace x0 := cell_grown hb8 x0
      replace x1 := cell_grown hb8 x1
      replace x2 := cell_grown hb8 x2
      replace hS0 := hS0.grown hb8
      replace hC0 := hC0.grown hb8
      replace hI0 := hI0.grown hb8
      replace hR0 := hR0.grown hb8
      replace HB := hid (HB.out.trans (hb8.mono HB.out.size))
      replace HV := hid (And.intro HV.out.1 (fun h => And.intro (HV.out.2 h).1 ((HV.out.2 h).2.grown hb8)))
      clear hb8
      go_wp2_with fail
      refine (listed_any Z due delay ca rt za m cc q rtc zn zc w8 HZ.out (by omega) hI0 (by omega) (by omega)).mono ?_
      rintro e w9 ⟨rfl, hb9⟩
      replace y0 := cell_grown hb9 y0
      replace y1 := cell_grown hb9 y1
      replace y2 := cell_grown hb9 y2
      replace y3 := cell_grown hb9 y3
      replace x0 := cell_grown hb9 x0
      replace x1 := cell_grown hb9 x1
      replace x2 := cell_grown hb9 x2
      replace hS0 := hS0.grown hb9
      replace hC0 := hC0.grown hb9
      replace hI0 := hI0.grown hb9
      replace hR0 := hR0.grown hb9
      replace HB := hid (HB.out.trans (hb9.mono HB.out.size))
      replace HV := hid (And.intro HV.out.1 (fun h => And.intro (HV.out.2 h).1 ((HV.out.2 h).2.grown hb9)))
      replace hRT := hRT.grown hb9
      clear hb9
      cases hst : staffsM m q Z
      · have HST := hid hst
        clear hst
        have hdv : de = 2 := by rw [← HDE.out]; unfold doneErr; rw [if_pos HFV.out, HC.out, HTT.out, HQ.out, HST.out]; rfl
        subst hdv
        have hvn : vn = 0 := HV.out.1 (by first | decide | assumption)
        subst hvn
        clear HV
        go_wp2_with fail
        refine (awake_any w9).mono ?_
        rintro e w' ⟨rfl, hb⟩
        go_wp2
        go_ret
        exact ⟨rfl, HB.out.trans (hb.mono HB.out.size)⟩
      · have HST := hid hst
        clear hst
        go_wp2_with fail
        refine (realsR_any C Z R due delay ca za xa m cc zn zc xn xc w9 HC.out hc5 hC0 HZ.out (by omega) hI0 (fun i hi => (staffs_at HST.out).2 i (by rw [HZ.out]; exact hi)) HR.out (by omega) hR0).mono ?_
        rintro e w10 ⟨rfl, hb10⟩
        replace y0 := cell_grown hb10 y0
        replace y1 := cell_grown hb10 y1
        replace y2 := cell_grown hb10 y2
        replace y3 := cell_grown hb10 y3
        replace x0 := cell_grown hb10 x0
        replace x1 := cell_grown hb10 x1
        replace x2 := cell_grown hb10 x2
        replace hS0 := hS0.grown hb10
        replace hC0 := hC0.grown hb10
        replace hI0 := hI0.grown hb10
        replace hR0 := hR0.grown hb10
        replace HB := hid (HB.out.trans (hb10.mono HB.out.size))
        replace HV := hid (And.intro HV.out.1 (fun h => And.intro (HV.out.2 h).1 ((HV.out.2 h).2.grown hb10)))
        replace hRT := hRT.grown hb10
        clear hb10
        cases hre : realsM C Z delay R
        · have HRE := hid hre
          clear hre
          have hdv : de = 1 := by rw [← HDE.out]; unfold doneErr; rw [if_pos HFV.out, HC.out, HTT.out, HQ.out, if_pos HST.out, HRE.out]; rfl
          subst hdv
          have hvn : vn = 0 := HV.out.1 (by first | decide | assumption)
          subst hvn
          clear HV
          go_wp2_with fail
          refine (awake_any w10).mono ?_
          rintro e w' ⟨rfl, hb⟩
          go_wp2
          go_ret
          exact ⟨rfl, HB.out.trans (hb.mono HB.out.size)⟩
        · have HRE := hid hre
          clear hre
          have hdv : de = 0 := by rw [← HDE.out]; unfold doneErr; rw [if_pos HFV.out, HC.out, HTT.out, HQ.out, if_pos HST.out, if_pos HRE.out]
          subst hdv
          have hzq : zn = q := by rw [← HZ.out]; exact (staffs_at HST.out).1
          have hxq : xn = q := by rw [← HR.out, (reals_at HRE.out).1]; exact (staffs_at HST.out).1
          have hvq : vn = q := by rw [(HV.out.2 rfl).1]; exact (staffs_at HST.out).1
          have hIv := (HV.out.2 rfl).2
          rw [HTT.out] at hIv
          subst hzq hxq hvq
          clear HV
          have hbR := real_bd HO.out (by rw [HC.out]; exact HST.out) HRE.out
          have HBR := hid hbR
          clear hbR
          go_wp2_with fail
          refine (doneR_any T R _ rtc xc rt xa w10 HQ.out HR.out (by omega) hRT hR0 (fun k hk => by rw [← HTT.out]; exact takesOf_bd HOK.out (by rw [HTT.out, HQ.out]; exact hk)) (fun k hk => HBR.out k (by rw [HR.out]; exact hk))).mono ?_
          rintro e w11 ⟨ve, vec, rfl, hIe, hb11⟩
          replace y0 := cell_grown hb11 y0
          replace y1 := cell_grown hb11 y1
          replace y2 := cell_grown hb11 y2
          replace y3 := cell_grown hb11 y3
          replace x0 := cell_grown hb11 x0
          replace x1 := cell_grown hb11 x1
          replace x2 := cell_grown hb11 x2
          replace hS0 := hS0.grown hb11
          replace hC0 := hC0.grown hb11
          replace hI0 := hI0.grown hb11
          replace hR0 := hR0.grown hb11
          replace HB := hid (HB.out.trans (hb11.mono HB.out.size))
          replace hIv := hIv.grown hb11
          clear hb11
          go_wp2_with fail
          refine (ints_any (endsM T R) (endsM T R) _ _ vc vec va ve w11 (by rw [endsM_length]; exact HQ.out) (by rw [endsM_length]; exact HQ.out) (by unfold maxLen; omega) (by unfold maxLen; omega) hIv hIe).mono ?_
          rw [decide_eq_true (rfl : endsM T R = endsM T R)]
          rintro e w12 ⟨rfl, hb12⟩
          replace HB := hid (HB.out.trans (hb12.mono HB.out.size))
          go_wp2_with fail
          refine (awake_any w12).mono ?_
          rintro e w' ⟨rfl, hb⟩
          go_wp2
          go_ret
          exact ⟨rfl, HB.out.trans (hb.mono HB.out.size)⟩
    · have hdv : de = fv := by rw [← HDE.out]; unfold doneErr; rw [if_neg (by rw [HFV.out]; exact hf0), HFV.out]
      subst hdv
      have hvn : vn = 0 := HV.out.1 (by first | decide | assumption)
      subst hvn
      clear HV
      go_wp2_with fail
      refine (awake_any w7).mono ?_
      rintro e w' ⟨rfl, hb⟩
      go_wp2
      go_ret
      exact ⟨rfl, HB.out.trans (hb.mono HB.out.size)⟩

end Go.Proofs.Ytgapbaelifcifaa
