/- The law TakeFirst: its walk. -/
import Derived.Test.YtgapbaelifcifaaHA
import Derived.Sort.AtCall
namespace Go.Proofs.Ytgapbaelifcifaa
open Go.RowKit

theorem best_dead {p : How} {R : List Nat} {rc : Nat} (h : p.best R 0 [0, 0, 0, 0, 0]) (hd : p.dead rc 0 [0, 0, 0, 0, 0]) : False := by
  have := (hd R h.1).1
  have h2 := h.2.1
  omega

theorem spans_of_owns' {W : World} {base : Nat} {e : TypeId} {a : Option Addr} {cap n : Nat} {X : List (Int × Int)} (hn : X.length = n) (h : W.ownsRow base e 2 (.slice a n cap) n (flat2 X)) : Spans W a X := by
  subst hn
  exact spans_of_owns h

theorem fails_one {len long short due delay : Int} {L : List (Int × Int)} {C : List (Int × Int × Int)} {w w' : World} {e : Ending} (h : FailsPost len long short due delay L C w e w') (hf : faultM len long short due delay L C = 0) :
    ∃ (z fe : Int), e = .returned (.tuple #[.int .i64 z, .int .i64 fe]) ∧ Below w.heap.size w w' ∧
      Hid ((z = 0 ∧ fe = 7 ∧ ∃ R, (howOf due delay C (takesOf len long short L)).best R 0 [0, 0, 0, 0, 0]) ∨
       ∃ q : Nat, z = (q : Int) ∧ fe = 0 ∧ q < (takesOf len long short L).length ∧ (∃ rs, rs.length = q ∧ (howOf due delay C (takesOf len long short L)).path rs 0 [0, 0, 0, 0, 0]) ∧ (howOf due delay C (takesOf len long short L)).dead q 0 [0, 0, 0, 0, 0]) := by
  obtain ⟨hb, ⟨h1, _⟩ | ⟨_, _, ⟨rfl, hR⟩ | ⟨q, rfl, hq, hp, hd⟩⟩⟩ := h
  · rw [serve_fault] at h1
    exact absurd hf h1
  · exact ⟨0, 7, rfl, hb, .inl ⟨rfl, rfl, hR⟩⟩
  · exact ⟨q, 0, rfl, hb, .inr ⟨q, rfl, rfl, hq, hp, hd⟩⟩

theorem cut_fault {len long short due delay : Int} {L : List (Int × Int)} {C : List (Int × Int × Int)} (hf : faultM len long short due delay L C = 0) {q : Nat} (hq : q < (takesOf len long short L).length) :
    faultM ((takesOf len long short L).getD q (0, 0)).2 long short due delay (cutL ((takesOf len long short L).getD q (0, 0)).2 L) C = 0 := by
  obtain ⟨h1, h2⟩ := fault_ok hf
  obtain ⟨h3, h4⟩ := sitErr_zero h1
  obtain ⟨h5, h6⟩ := cut_takes h3 hq
  have hs : sitErr ((takesOf len long short L).getD q (0, 0)).2 long short (cutL ((takesOf len long short L).getD q (0, 0)).2 L) = 0 := by
    unfold sitErr
    rw [if_neg (by rw [h5]; decide), h6, if_neg (by rw [List.length_take]; omega)]
  unfold faultM
  rw [if_pos hs, if_pos h2]

/-- Up to the take that fails there is no rota. -/
theorem first_cut {len long short due delay : Int} {L : List (Int × Int)} {C : List (Int × Int × Int)} (hf : faultM len long short due delay L C = 0) {q : Nat} (hq : q < (takesOf len long short L).length)
    (hd : (howOf due delay C (takesOf len long short L)).dead q 0 [0, 0, 0, 0, 0]) :
    (∀ Z, proveM ((takesOf len long short L).getD q (0, 0)).2 long short due delay (cutL ((takesOf len long short L).getD q (0, 0)).2 L) C Z = false) ∧
    ∀ R, ¬ (howOf due delay C (takesOf ((takesOf len long short L).getD q (0, 0)).2 long short (cutL ((takesOf len long short L).getD q (0, 0)).2 L))).best R 0 [0, 0, 0, 0, 0] := by
  obtain ⟨h1, h2⟩ := fault_ok hf
  obtain ⟨h3, h4⟩ := sitErr_zero h1
  obtain ⟨h5, h6⟩ := cut_takes h3 hq
  obtain ⟨-, hA, -, -⟩ := takes_all h3
  obtain ⟨o1, -⟩ := offOk_parts h2
  have hff := cut_fault hf hq
  have hno : ∀ R, (howOf due delay C (takesOf ((takesOf len long short L).getD q (0, 0)).2 long short (cutL ((takesOf len long short L).getD q (0, 0)).2 L))).path R 0 [0, 0, 0, 0, 0] →
      R.length = (takesOf ((takesOf len long short L).getD q (0, 0)).2 long short (cutL ((takesOf len long short L).getD q (0, 0)).2 L)).length → False := by
    intro R hp hl
    rw [h6] at hp hl
    rw [List.length_take] at hl
    rw [path_take hA (asc_take _ _ _ hA) (by omega) (by omega) o1.2] at hp
    have := (hd R hp).2
    omega
  exact ⟨fun Z => prove_dead hff hno, fun R hb => hno R hb.1 (by have := hb.2.1; rw [Nat.zero_add] at this; exact this)⟩

/-- Before the take that fails there is one. -/
theorem first_before {len long short due delay : Int} {L : List (Int × Int)} {C : List (Int × Int × Int)} (hf : faultM len long short due delay L C = 0) {q : Nat} (hq : q + 1 < (takesOf len long short L).length)
    {rs : List Nat} (hl : rs.length = q + 1) (hp : (howOf due delay C (takesOf len long short L)).path rs 0 [0, 0, 0, 0, 0]) :
    ∀ rc, rc < (takesOf ((takesOf len long short L).getD q (0, 0)).2 long short (cutL ((takesOf len long short L).getD q (0, 0)).2 L)).length →
      ¬ (howOf due delay C (takesOf ((takesOf len long short L).getD q (0, 0)).2 long short (cutL ((takesOf len long short L).getD q (0, 0)).2 L))).dead rc 0 [0, 0, 0, 0, 0] := by
  obtain ⟨h1, h2⟩ := fault_ok hf
  obtain ⟨h3, h4⟩ := sitErr_zero h1
  obtain ⟨h5, h6⟩ := cut_takes h3 (show q < _ by omega)
  obtain ⟨-, hA, -, -⟩ := takes_all h3
  obtain ⟨o1, -⟩ := offOk_parts h2
  intro rc hrc hd
  rw [h6] at hd
  rw [← path_take (m := q + 1) hA (asc_take _ _ _ hA) (by omega) (by omega) o1.2] at hp
  have h7 := (hd rs hp).1
  have h8 : (howOf due delay C ((takesOf len long short L).take (q + 1))).tn = ((takesOf len long short L).take (q + 1)).length := rfl
  rw [h8, List.length_take] at h7
  omega

set_option maxRecDepth 100000 in
set_option maxHeartbeats 40000000 in
theorem takeFirst_any (L : List (Int × Int)) (len long short : Int) (n cap : Nat) (a : Option Addr) (C : List (Int × Int × Int)) (due delay : Int) (m cc : Nat) (ca : Option Addr) (Z : List Int) (zn zc : Nat) (za : Option Addr) (w : World)
    (hL : L.length = n) (hn : n ≤ maxLen) (hS : Spans w a L) (hC : C.length = m) (hm : m ≤ maxLen) (hCr : Crew w ca C) (hZ : Z.length = zn) (hzn : zn ≤ maxLen) (hI : Ints w za Z) (hza : za = none → zc = 0) :
    Calls Try.prog 12 #[.agg #[.int .i64 len, .slice a n cap, .int .i64 long, .int .i64 short], .agg #[.slice ca m cc, .int .i64 due, .int .i64 delay], .slice za zn zc] w fun e w' => e = .returned (.bool true) ∧ Below w.heap.size w w' := by
  have hn' := hn
  have hm' := hm
  have hz' := hzn
  unfold maxLen at hn' hm' hz'
  have HL := hid hL
  have HC := hid hC
  have HZ := hid hZ
  have HZA := hid hza
  clear hL hC hZ hza
  go_enter Try.func12, Try.ntmps12
  go_wp2_with fail
  obtain ⟨W0, hW0⟩ : ∃ W0, W0 = (w.alloc (.cells #[.int .i64 len, .slice a n cap, .int .i64 long, .int .i64 short] 24)).alloc (.cells #[.slice ca m cc, .int .i64 due, .int .i64 delay] 27) := ⟨_, rfl⟩
  have hB0 : Below w.heap.size w W0 := by rw [hW0]; exact ((Below.refl _ w).alloc (Nat.le_refl _) _).alloc (by simp) _
  have z0 : W0.heap.size = w.heap.size + 2 := by rw [hW0]; simp
  have y0 : W0.cell? ⟨w.heap.size, 0, none⟩ = some (.int .i64 len) := by rw [hW0]; simp [go_sem]
  have y1 : W0.cell? ⟨w.heap.size, 1, none⟩ = some (.slice a n cap) := by rw [hW0]; simp [go_sem]
  have y2 : W0.cell? ⟨w.heap.size, 2, none⟩ = some (.int .i64 long) := by rw [hW0]; simp [go_sem]
  have y3 : W0.cell? ⟨w.heap.size, 3, none⟩ = some (.int .i64 short) := by rw [hW0]; simp [go_sem]
  have x0 : W0.cell? ⟨w.heap.size + 1, 0, none⟩ = some (.slice ca m cc) := by rw [hW0]; simp [go_sem]
  have x1 : W0.cell? ⟨w.heap.size + 1, 1, none⟩ = some (.int .i64 due) := by rw [hW0]; simp [go_sem]
  have x2 : W0.cell? ⟨w.heap.size + 1, 2, none⟩ = some (.int .i64 delay) := by rw [hW0]; simp [go_sem]
  rw [← hW0]
  clear hW0
  have hS0 := hS.grown hB0
  have hC0 := hCr.grown hB0
  have hI0 := hI.grown hB0
  refine (ready_any L C len long short due delay n cap m cc a ca W0 HL.out hn hS0 HC.out hm hC0).mono ?_
  obtain ⟨th, hth⟩ : ∃ b, ((decide (n ≤ 60) && decide (m ≤ 8)) && decide (faultM len long short due delay L C = 0)) = b := ⟨_, rfl⟩
  rw [hth]
  rintro e w1 ⟨rfl, hb1⟩
  replace y0 := cell_grown hb1 y0
  replace y1 := cell_grown hb1 y1
  replace y2 := cell_grown hb1 y2
  replace y3 := cell_grown hb1 y3
  replace x0 := cell_grown hb1 x0
  replace x1 := cell_grown hb1 x1
  replace x2 := cell_grown hb1 x2
  replace hS0 := hS0.grown hb1
  replace hC0 := hC0.grown hb1
  replace hI0 := hI0.grown hb1
  have HB := hid (hB0.trans (hb1.mono (by omega)))
  clear hb1 hB0 hS hCr hI
  cases th
  · go_wp2_with fail
    refine (awake_any w1).mono ?_
    rintro e w' ⟨rfl, hb⟩
    go_wp2
    go_ret
    exact ⟨rfl, HB.out.trans (hb.mono HB.out.size)⟩
  by_cases hz45 : ¬ zn ≤ 45
  · have hzi : (45 : Int) < zn := by omega
    go_wp2_with fail
    refine (awake_any w1).mono ?_
    rintro e w' ⟨rfl, hb⟩
    go_wp2
    go_ret
    exact ⟨rfl, HB.out.trans (hb.mono HB.out.size)⟩
  · have hz45' : zn ≤ 45 := by omega
    clear hz45
    have hzi : ¬ (45 : Int) < zn := by omega
    have hth' : (n ≤ 60 ∧ m ≤ 8) ∧ faultM len long short due delay L C = 0 := by simpa using hth
    clear hth
    obtain ⟨⟨hn60, hm8⟩, hfz⟩ := hth'
    obtain ⟨hs0, ho0⟩ := fault_ok hfz
    obtain ⟨hok, h40⟩ := sitErr_zero hs0
    have HFV := hid hfz
    have HOK := hid hok
    obtain ⟨ho1, -⟩ := offOk_parts ho0
    have hc5 : m ≤ 5 := by rw [← HC.out]; exact ho1.2
    clear hfz hs0 ho0 hok ho1
    have hBd : Below w1.heap.size w1 w1.drew := (Below.refl _ _).drew
    go_wp2_with fail
    go_region_held3 (fun w' : World => w'.cell? ⟨w.heap.size, 0, none⟩ = some (.int .i64 len) ∧ w'.cell? ⟨w.heap.size, 1, none⟩ = some (.slice a n cap) ∧ w'.cell? ⟨w.heap.size, 2, none⟩ = some (.int .i64 long) ∧ w'.cell? ⟨w.heap.size, 3, none⟩ = some (.int .i64 short) ∧ w'.cell? ⟨w.heap.size + 1, 0, none⟩ = some (.slice ca m cc) ∧ w'.cell? ⟨w.heap.size + 1, 1, none⟩ = some (.int .i64 due) ∧ w'.cell? ⟨w.heap.size + 1, 2, none⟩ = some (.int .i64 delay)) (exact ⟨y0, y1, y2, y3, x0, x1, x2⟩) (first | (go_at_call 18; replace y0 := cell_grown hBd y0; replace y1 := cell_grown hBd y1; replace y2 := cell_grown hBd y2; replace y3 := cell_grown hBd y3; replace x0 := cell_grown hBd x0; replace x1 := cell_grown hBd x1; replace x2 := cell_grown hBd x2; replace hS0 := hS0.grown hBd; replace hC0 := hC0.grown hBd; replace hI0 := hI0.grown hBd; refine (sitting_any L len long short n cap a _ HL.out hn60 hS0).mono ?_; rintro e w2 ⟨ra, rc, rfl, hSr, hb2⟩; replace HB := hid (HB.out.trans (hBd.mono HB.out.size)); replace HB := hid (HB.out.trans (hb2.mono HB.out.size)); replace y0 := cell_grown hb2 y0; replace y1 := cell_grown hb2 y1; replace y2 := cell_grown hb2 y2; replace y3 := cell_grown hb2 y3; replace x0 := cell_grown hb2 x0; replace x1 := cell_grown hb2 x1; replace x2 := cell_grown hb2 x2; replace hS0 := hS0.grown hb2; replace hC0 := hC0.grown hb2; replace hI0 := hI0.grown hb2) | (go_at_call 20; refine (office_any C due delay m cc ca _ HC.out (by omega) hC0).mono ?_; rintro e w3 ⟨rb, rd, rfl, hCr3, hb3⟩; replace HB := hid (HB.out.trans (hb3.mono HB.out.size)); replace hSr := hSr.grown hb3; replace y0 := cell_grown hb3 y0; replace y1 := cell_grown hb3 y1; replace y2 := cell_grown hb3 y2; replace y3 := cell_grown hb3 y3; replace x0 := cell_grown hb3 x0; replace x1 := cell_grown hb3 x1; replace x2 := cell_grown hb3 x2; replace hS0 := hS0.grown hb3; replace hC0 := hC0.grown hb3; replace hI0 := hI0.grown hb3) | (go_at_call 29; refine (rota_any L len long short due delay C n rc m rd ra rb _ HL.out hn hSr HC.out hm hCr3).mono ?_; intro e w10 hpost; obtain ⟨va, vn, vc, er, R, rfl, hb10, hRn, hRI, HRO⟩ := rota_one hpost HFV.out; replace HB := hid (HB.out.trans (hb10.mono HB.out.size)); replace hI0 := hI0.grown hb10; replace y0 := cell_grown hb10 y0; replace y1 := cell_grown hb10 y1; replace y2 := cell_grown hb10 y2; replace y3 := cell_grown hb10 y3; replace x0 := cell_grown hb10 x0; replace x1 := cell_grown hb10 x1; replace x2 := cell_grown hb10 x2; replace hS0 := hS0.grown hb10; replace hC0 := hC0.grown hb10))
    clear hpost hb2 hb3 hb10 hSr hCr3 hBd hRI hRn
    have hBd : Below w10.heap.size w10 w10.drew := (Below.refl _ _).drew
    go_wp2_with fail
    go_region_held3 (fun w' : World => w'.cell? ⟨w.heap.size, 0, none⟩ = some (.int .i64 len) ∧ w'.cell? ⟨w.heap.size, 1, none⟩ = some (.slice a n cap) ∧ w'.cell? ⟨w.heap.size, 2, none⟩ = some (.int .i64 long) ∧ w'.cell? ⟨w.heap.size, 3, none⟩ = some (.int .i64 short) ∧ w'.cell? ⟨w.heap.size + 1, 0, none⟩ = some (.slice ca m cc) ∧ w'.cell? ⟨w.heap.size + 1, 1, none⟩ = some (.int .i64 due) ∧ w'.cell? ⟨w.heap.size + 1, 2, none⟩ = some (.int .i64 delay)) (exact ⟨y0, y1, y2, y3, x0, x1, x2⟩) (first | (go_at_call 18; replace y0 := cell_grown hBd y0; replace y1 := cell_grown hBd y1; replace y2 := cell_grown hBd y2; replace y3 := cell_grown hBd y3; replace x0 := cell_grown hBd x0; replace x1 := cell_grown hBd x1; replace x2 := cell_grown hBd x2; replace hS0 := hS0.grown hBd; replace hC0 := hC0.grown hBd; replace hI0 := hI0.grown hBd; refine (sitting_any L len long short n cap a _ HL.out hn60 hS0).mono ?_; rintro e w2 ⟨ra, rc, rfl, hSr, hb2⟩; replace HB := hid (HB.out.trans (hBd.mono HB.out.size)); replace HB := hid (HB.out.trans (hb2.mono HB.out.size)); replace y0 := cell_grown hb2 y0; replace y1 := cell_grown hb2 y1; replace y2 := cell_grown hb2 y2; replace y3 := cell_grown hb2 y3; replace x0 := cell_grown hb2 x0; replace x1 := cell_grown hb2 x1; replace x2 := cell_grown hb2 x2; replace hS0 := hS0.grown hb2; replace hC0 := hC0.grown hb2; replace hI0 := hI0.grown hb2) | (go_at_call 20; refine (office_any C due delay m cc ca _ HC.out (by omega) hC0).mono ?_; rintro e w3 ⟨rb, rd, rfl, hCr3, hb3⟩; replace HB := hid (HB.out.trans (hb3.mono HB.out.size)); replace hSr := hSr.grown hb3; replace y0 := cell_grown hb3 y0; replace y1 := cell_grown hb3 y1; replace y2 := cell_grown hb3 y2; replace y3 := cell_grown hb3 y3; replace x0 := cell_grown hb3 x0; replace x1 := cell_grown hb3 x1; replace x2 := cell_grown hb3 x2; replace hS0 := hS0.grown hb3; replace hC0 := hC0.grown hb3; replace hI0 := hI0.grown hb3) | (go_at_call 30; refine (fails_any L len long short due delay C n rc m rd ra rb _ HL.out hn hSr HC.out hm hCr3).mono ?_; intro e w11 hpost; obtain ⟨fz, fe, rfl, hb11, HFO⟩ := fails_one hpost HFV.out; replace HB := hid (HB.out.trans (hb11.mono HB.out.size)); replace hI0 := hI0.grown hb11; replace y0 := cell_grown hb11 y0; replace y1 := cell_grown hb11 y1; replace y2 := cell_grown hb11 y2; replace y3 := cell_grown hb11 y3; replace x0 := cell_grown hb11 x0; replace x1 := cell_grown hb11 x1; replace x2 := cell_grown hb11 x2; replace hS0 := hS0.grown hb11; replace hC0 := hC0.grown hb11))
    clear hpost hb2 hb3 hb11 hSr hCr3 hBd
    rcases HRO.out with ⟨her, hbest⟩ | ⟨her, hRnil, rc0, hrc0, hdead0⟩
    · rcases HFO.out with ⟨hfz, hfe, _⟩ | ⟨q, _, _, _, _, hdq⟩
      · subst her hfe
        clear hfz hbest
        go_wp2_with fail
        refine (awake_any w11).mono ?_
        rintro e w' ⟨rfl, hb⟩
        go_wp2
        go_ret
        exact ⟨rfl, HB.out.trans (hb.mono HB.out.size)⟩
      · exact (best_dead hbest hdq).elim
    · rcases HFO.out with ⟨_, _, R', hbest⟩ | ⟨q, hfz, hfe, hq, ⟨rs, hrl, hrp⟩, hdq⟩
      · exact (best_dead hbest hdead0).elim
      · subst her hfz hfe
        clear hRnil hrc0 hdead0 HRO HFO
        have HQ := hid hq
        obtain ⟨hno1, hno2⟩ := first_cut HFV.out hq hdq
        have HF2 := hid (cut_fault HFV.out hq)
        have HPV : Hid (proveM len long short due delay L C Z = false) := hid (prove_dead HFV.out fun R hp hl => by
          have := (hdq R hp).1
          have h2 : (howOf due delay C (takesOf len long short L)).tn = (takesOf len long short L).length := rfl
          omega)
        have HP2 := hid (hno1 Z)
        have HB2 := hid hno2
        have HW3 : Hid (∀ q', q = q' + 1 → faultM ((takesOf len long short L).getD q' (0, 0)).2 long short due delay (cutL ((takesOf len long short L).getD q' (0, 0)).2 L) C = 0 ∧ ∀ rc, rc < (takesOf ((takesOf len long short L).getD q' (0, 0)).2 long short (cutL ((takesOf len long short L).getD q' (0, 0)).2 L)).length →
            ¬ (howOf due delay C (takesOf ((takesOf len long short L).getD q' (0, 0)).2 long short (cutL ((takesOf len long short L).getD q' (0, 0)).2 L))).dead rc 0 [0, 0, 0, 0, 0]) := hid (fun q' e => by
          subst e
          exact ⟨cut_fault HFV.out (by omega), first_before HFV.out hq hrl hrp⟩)
        clear hno1 hno2 hdq hrl hrp hq
        go_wp2_with fail
        refine (sitting_any L len long short n cap a w11 HL.out hn60 hS0).mono ?_
        rintro e w12 ⟨ra, rc, rfl, hSr, hb12⟩
        replace y0 := cell_grown hb12 y0
        replace y1 := cell_grown hb12 y1
        replace y2 := cell_grown hb12 y2
        replace y3 := cell_grown hb12 y3
        replace x0 := cell_grown hb12 x0
        replace x1 := cell_grown hb12 x1
        replace x2 := cell_grown hb12 x2
        replace hS0 := hS0.grown hb12
        replace hC0 := hC0.grown hb12
        replace HB := hid (HB.out.trans (hb12.mono HB.out.size))
        replace hI0 := hI0.grown hb12
        clear hb12
        go_wp2_with fail
        refine (takes_any L len long short n rc ra w12 HL.out hn hSr).mono ?_
        intro e w13 h
        rcases cutPost_cases h with ⟨h1, _⟩ | ⟨_, h2, _⟩ | ⟨ta, tc, vn, hvn, _, _, hb13, rfl, hT, _⟩
        · rw [HOK.out] at h1; simp at h1
        · omega
        replace y0 := cell_grown hb13 y0
        replace y1 := cell_grown hb13 y1
        replace y2 := cell_grown hb13 y2
        replace y3 := cell_grown hb13 y3
        replace x0 := cell_grown hb13 x0
        replace x1 := cell_grown hb13 x1
        replace x2 := cell_grown hb13 x2
        replace hS0 := hS0.grown hb13
        replace hC0 := hC0.grown hb13
        replace HB := hid (HB.out.trans (hb13.mono HB.out.size))
        replace hI0 := hI0.grown hb13
        clear hb13 h hSr
        rw [hvn] at h40
        have HVN := hid hvn
        clear hvn
        have hqv : q < vn := by rw [← HVN.out]; exact HQ.out
        have k1 : decide ((q : Int) < 0) = false := by simp
        have k2 : decide ((vn : Int) ≤ (q : Int)) = false := by simp; omega
        have k3 : decide ((q : Int) ≥ (vn : Int)) = false := k2
        have k4 : decide (vn ≤ q) = false := by simp; omega
        have hBd : Below w13.heap.size w13 w13.drew := (Below.refl _ _).drew
        go_wp2_with fail
        go_region_held3 (fun w' : World => w'.cell? ⟨w.heap.size, 0, none⟩ = some (.int .i64 len) ∧ w'.cell? ⟨w.heap.size, 1, none⟩ = some (.slice a n cap) ∧ w'.cell? ⟨w.heap.size, 2, none⟩ = some (.int .i64 long) ∧ w'.cell? ⟨w.heap.size, 3, none⟩ = some (.int .i64 short) ∧ w'.cell? ⟨w.heap.size + 1, 0, none⟩ = some (.slice ca m cc) ∧ w'.cell? ⟨w.heap.size + 1, 1, none⟩ = some (.int .i64 due) ∧ w'.cell? ⟨w.heap.size + 1, 2, none⟩ = some (.int .i64 delay)) (exact ⟨y0, y1, y2, y3, x0, x1, x2⟩) (first | (go_at_call 18; replace y0 := cell_grown hBd y0; replace y1 := cell_grown hBd y1; replace y2 := cell_grown hBd y2; replace y3 := cell_grown hBd y3; replace x0 := cell_grown hBd x0; replace x1 := cell_grown hBd x1; replace x2 := cell_grown hBd x2; replace hS0 := hS0.grown hBd; replace hC0 := hC0.grown hBd; replace hI0 := hI0.grown hBd; replace hT := hT.grown hBd; refine (sitting_any L len long short n cap a _ HL.out hn60 hS0).mono ?_; rintro e w2 ⟨ra, rc, rfl, hSr, hb2⟩; replace HB := hid (HB.out.trans (hBd.mono HB.out.size)); replace HB := hid (HB.out.trans (hb2.mono HB.out.size)); replace y0 := cell_grown hb2 y0; replace y1 := cell_grown hb2 y1; replace y2 := cell_grown hb2 y2; replace y3 := cell_grown hb2 y3; replace x0 := cell_grown hb2 x0; replace x1 := cell_grown hb2 x1; replace x2 := cell_grown hb2 x2; replace hS0 := hS0.grown hb2; replace hC0 := hC0.grown hb2; replace hI0 := hI0.grown hb2; replace hT := hT.grown hb2) | (go_at_call 20; refine (office_any C due delay m cc ca _ HC.out (by omega) hC0).mono ?_; rintro e w3 ⟨rb, rd, rfl, hCr3, hb3⟩; replace HB := hid (HB.out.trans (hb3.mono HB.out.size)); replace hSr := hSr.grown hb3; replace y0 := cell_grown hb3 y0; replace y1 := cell_grown hb3 y1; replace y2 := cell_grown hb3 y2; replace y3 := cell_grown hb3 y3; replace x0 := cell_grown hb3 x0; replace x1 := cell_grown hb3 x1; replace x2 := cell_grown hb3 x2; replace hS0 := hS0.grown hb3; replace hC0 := hC0.grown hb3; replace hI0 := hI0.grown hb3; replace hT := hT.grown hb3) | (go_at_call 35; refine (list_any Z zn zc za _ HZ.out (by omega) hI0 HZA.out).mono ?_; rintro e w4 ⟨vz, rfl, hownz, hb4⟩; obtain ⟨rz2, rzc2, rfl⟩ := owns_shape hownz; have hIz2 := ints_of_owns1 HZ.out hownz; replace HB := hid (HB.out.trans (hb4.mono HB.out.size)); replace hSr := hSr.grown hb4; replace hCr3 := hCr3.grown hb4; replace hI0 := hI0.grown hb4; replace hT := hT.grown hb4; replace y0 := cell_grown hb4 y0; replace y1 := cell_grown hb4 y1; replace y2 := cell_grown hb4 y2; replace y3 := cell_grown hb4 y3; replace x0 := cell_grown hb4 x0; replace x1 := cell_grown hb4 x1; replace x2 := cell_grown hb4 x2; replace hS0 := hS0.grown hb4; replace hC0 := hC0.grown hb4) | (go_at_call 38; refine (prove_any L len long short due delay C Z n rc m rd zn rzc2 ra rb rz2 _ HL.out hn hSr HC.out hm hCr3 HZ.out (by unfold maxLen; omega) hIz2).mono ?_; rw [HPV.out]; rintro e w5 ⟨rfl, hb5⟩; replace HB := hid (HB.out.trans (hb5.mono HB.out.size)); replace hI0 := hI0.grown hb5; replace hT := hT.grown hb5; replace y0 := cell_grown hb5 y0; replace y1 := cell_grown hb5 y1; replace y2 := cell_grown hb5 y2; replace y3 := cell_grown hb5 y3; replace x0 := cell_grown hb5 x0; replace x1 := cell_grown hb5 x1; replace x2 := cell_grown hb5 x2; replace hS0 := hS0.grown hb5; replace hC0 := hC0.grown hb5))
        clear hb2 hb3 hb4 hb5 hSr hCr3 hIz2 hownz hBd k1 k2 k3 k4
        go_wp2_with fail
        have hbT := takesOf_bd HOK.out (k := q) HQ.out
        obtain ⟨bt, ot, ea, -, e3⟩ := hT q HQ.out
        subst ea
        obtain ⟨to, hto⟩ : ∃ t, ((takesOf len long short L).getD q (0, 0)).2 = t := ⟨_, rfl⟩
        rw [hto] at hbT e3 HF2 HP2 HB2
        clear hto hbT
        have g1 := lt_of_cell e3
        have g2 := lt_of_cell y1
        have hqi : (q : Int) < vn := by omega
        have hBd : Below w5.heap.size w5 w5.drew := (Below.refl _ _).drew
        go_wp2_with fail
        obtain ⟨Wa, hWa⟩ : ∃ x, (w5.alloc (.cells #[.int .i64 0, .slice none 0 0, .int .i64 0, .int .i64 0] 24)).drew = x := ⟨_, rfl⟩
        have hBa : Below w5.heap.size w5 Wa := by rw [← hWa]; exact ((Below.refl _ _).alloc (Nat.le_refl _) _).drew
        have hM : Wa.heap[w5.heap.size]? = some (.cells #[.int .i64 0, .slice none 0 0, .int .i64 0, .int .i64 0] 24 (0, 0)) := by rw [← hWa]; exact World.alloc_heap_new w5 (.cells #[.int .i64 0, .slice none 0 0, .int .i64 0, .int .i64 0] 24)
        have m0 : Wa.cell? ⟨w5.heap.size, 0, none⟩ = some (.int .i64 0) := by rw [← hWa]; simp [go_sem]
        have f0 : Wa.frozen? ⟨w5.heap.size, 0, none⟩ = false := by rw [← hWa]; simp [go_sem]
        have m1 : Wa.cell? ⟨w5.heap.size, 1, none⟩ = some (.slice none 0 0) := by rw [← hWa]; simp [go_sem]
        have f1 : Wa.frozen? ⟨w5.heap.size, 1, none⟩ = false := by rw [← hWa]; simp [go_sem]
        have m2 : Wa.cell? ⟨w5.heap.size, 2, none⟩ = some (.int .i64 0) := by rw [← hWa]; simp [go_sem]
        have f2 : Wa.frozen? ⟨w5.heap.size, 2, none⟩ = false := by rw [← hWa]; simp [go_sem]
        have m3 : Wa.cell? ⟨w5.heap.size, 3, none⟩ = some (.int .i64 0) := by rw [← hWa]; simp [go_sem]
        have f3 : Wa.frozen? ⟨w5.heap.size, 3, none⟩ = false := by rw [← hWa]; simp [go_sem]
        have hza : Wa.heap.size = w5.heap.size + 1 := by rw [← hWa]; simp
        have hlw0 : w.heap.size < w5.heap.size := g2
        have hlw1 : w.heap.size + 1 < w5.heap.size := lt_of_cell x0
        have zy0 := y0
        have zy1 := y1
        have zy2 := y2
        have zy3 := y3
        have zx0 := x0
        have zx1 := x1
        have zx2 := x2
        have hS5 := hS0
        have hC5 := hC0
        have hI5 := hI0
        have hT5 := hT
        go_region_held3 (fun w' : World => w'.cell? ⟨w.heap.size, 0, none⟩ = some (.int .i64 len) ∧ w'.cell? ⟨w.heap.size, 1, none⟩ = some (.slice a n cap) ∧ w'.cell? ⟨w.heap.size, 2, none⟩ = some (.int .i64 long) ∧ w'.cell? ⟨w.heap.size, 3, none⟩ = some (.int .i64 short) ∧ w'.cell? ⟨w.heap.size + 1, 0, none⟩ = some (.slice ca m cc) ∧ w'.cell? ⟨w.heap.size + 1, 1, none⟩ = some (.int .i64 due) ∧ w'.cell? ⟨w.heap.size + 1, 2, none⟩ = some (.int .i64 delay) ∧ w'.cell? ⟨bt, ot + q * 2 + 1, none⟩ = some (.int .i64 to)) (first | with_reducible exact ⟨y0, y1, y2, y3, x0, x1, x2, e3⟩ | with_reducible exact ⟨cell_grown hBa y0, cell_grown hBa y1, cell_grown hBa y2, cell_grown hBa y3, cell_grown hBa x0, cell_grown hBa x1, cell_grown hBa x2, cell_grown hBa e3⟩ | with_reducible exact ⟨cell_grown hBd y0, cell_grown hBd y1, cell_grown hBd y2, cell_grown hBd y3, cell_grown hBd x0, cell_grown hBd x1, cell_grown hBd x2, cell_grown hBd e3⟩ | with_reducible exact ⟨cell_grown (Below.alloc (Below.refl _ _) (Nat.le_refl _) _) y0, cell_grown (Below.alloc (Below.refl _ _) (Nat.le_refl _) _) y1, cell_grown (Below.alloc (Below.refl _ _) (Nat.le_refl _) _) y2, cell_grown (Below.alloc (Below.refl _ _) (Nat.le_refl _) _) y3, cell_grown (Below.alloc (Below.refl _ _) (Nat.le_refl _) _) x0, cell_grown (Below.alloc (Below.refl _ _) (Nat.le_refl _) _) x1, cell_grown (Below.alloc (Below.refl _ _) (Nat.le_refl _) _) x2, cell_grown (Below.alloc (Below.refl _ _) (Nat.le_refl _) _) e3⟩ | with_reducible exact ⟨cell_below (((((Below.refl w5.heap.size _).setCell (p := ⟨w5.heap.size, 0, none⟩) (Nat.le_refl _) _).setCell (p := ⟨w5.heap.size, 1, none⟩) (Nat.le_refl _) _).setCell (p := ⟨w5.heap.size, 2, none⟩) (Nat.le_refl _) _).setCell (p := ⟨w5.heap.size, 3, none⟩) (Nat.le_refl _) _) hlw0 y0, cell_below (((((Below.refl w5.heap.size _).setCell (p := ⟨w5.heap.size, 0, none⟩) (Nat.le_refl _) _).setCell (p := ⟨w5.heap.size, 1, none⟩) (Nat.le_refl _) _).setCell (p := ⟨w5.heap.size, 2, none⟩) (Nat.le_refl _) _).setCell (p := ⟨w5.heap.size, 3, none⟩) (Nat.le_refl _) _) hlw0 y1, cell_below (((((Below.refl w5.heap.size _).setCell (p := ⟨w5.heap.size, 0, none⟩) (Nat.le_refl _) _).setCell (p := ⟨w5.heap.size, 1, none⟩) (Nat.le_refl _) _).setCell (p := ⟨w5.heap.size, 2, none⟩) (Nat.le_refl _) _).setCell (p := ⟨w5.heap.size, 3, none⟩) (Nat.le_refl _) _) hlw0 y2, cell_below (((((Below.refl w5.heap.size _).setCell (p := ⟨w5.heap.size, 0, none⟩) (Nat.le_refl _) _).setCell (p := ⟨w5.heap.size, 1, none⟩) (Nat.le_refl _) _).setCell (p := ⟨w5.heap.size, 2, none⟩) (Nat.le_refl _) _).setCell (p := ⟨w5.heap.size, 3, none⟩) (Nat.le_refl _) _) hlw0 y3, cell_below (((((Below.refl w5.heap.size _).setCell (p := ⟨w5.heap.size, 0, none⟩) (Nat.le_refl _) _).setCell (p := ⟨w5.heap.size, 1, none⟩) (Nat.le_refl _) _).setCell (p := ⟨w5.heap.size, 2, none⟩) (Nat.le_refl _) _).setCell (p := ⟨w5.heap.size, 3, none⟩) (Nat.le_refl _) _) hlw1 x0, cell_below (((((Below.refl w5.heap.size _).setCell (p := ⟨w5.heap.size, 0, none⟩) (Nat.le_refl _) _).setCell (p := ⟨w5.heap.size, 1, none⟩) (Nat.le_refl _) _).setCell (p := ⟨w5.heap.size, 2, none⟩) (Nat.le_refl _) _).setCell (p := ⟨w5.heap.size, 3, none⟩) (Nat.le_refl _) _) hlw1 x1, cell_below (((((Below.refl w5.heap.size _).setCell (p := ⟨w5.heap.size, 0, none⟩) (Nat.le_refl _) _).setCell (p := ⟨w5.heap.size, 1, none⟩) (Nat.le_refl _) _).setCell (p := ⟨w5.heap.size, 2, none⟩) (Nat.le_refl _) _).setCell (p := ⟨w5.heap.size, 3, none⟩) (Nat.le_refl _) _) hlw1 x2, cell_below (((((Below.refl w5.heap.size _).setCell (p := ⟨w5.heap.size, 0, none⟩) (Nat.le_refl _) _).setCell (p := ⟨w5.heap.size, 1, none⟩) (Nat.le_refl _) _).setCell (p := ⟨w5.heap.size, 2, none⟩) (Nat.le_refl _) _).setCell (p := ⟨w5.heap.size, 3, none⟩) (Nat.le_refl _) _) g1 e3⟩) (first | (go_at_call 50; replace y0 := cell_grown hBa y0; replace y1 := cell_grown hBa y1; replace y2 := cell_grown hBa y2; replace y3 := cell_grown hBa y3; replace x0 := cell_grown hBa x0; replace x1 := cell_grown hBa x1; replace x2 := cell_grown hBa x2; replace e3 := cell_grown hBa e3; replace hS0 := hS0.grown hBa; replace hC0 := hC0.grown hBa; replace hI0 := hI0.grown hBa; replace hT := hT.grown hBa; refine (cutR_any L len long short to n cap a Wa HL.out hn60 hS0).mono ?_; rintro e w14 ⟨ra, rn, rc, rfl, hrn, HL2, hSu, hOu, hb14⟩; have hb514 := hBa.trans (hb14.mono hBa.size); replace y0 := cell_grown hb14 y0; replace y1 := cell_grown hb14 y1; replace y2 := cell_grown hb14 y2; replace y3 := cell_grown hb14 y3; replace x0 := cell_grown hb14 x0; replace x1 := cell_grown hb14 x1; replace x2 := cell_grown hb14 x2; replace e3 := cell_grown hb14 e3; replace hS0 := hS0.grown hb14; replace hC0 := hC0.grown hb14; replace hI0 := hI0.grown hb14; replace hT := hT.grown hb14; replace m0 := cell_grown hb14 m0; replace f0 := (hb14.frozen (p := ⟨w5.heap.size, 0, none⟩) (show w5.heap.size < _ by omega)).trans f0; replace m1 := cell_grown hb14 m1; replace f1 := (hb14.frozen (p := ⟨w5.heap.size, 1, none⟩) (show w5.heap.size < _ by omega)).trans f1; replace m2 := cell_grown hb14 m2; replace f2 := (hb14.frozen (p := ⟨w5.heap.size, 2, none⟩) (show w5.heap.size < _ by omega)).trans f2; replace m3 := cell_grown hb14 m3; replace f3 := (hb14.frozen (p := ⟨w5.heap.size, 3, none⟩) (show w5.heap.size < _ by omega)).trans f3; replace hM := (hb14.block w5.heap.size (by omega)).trans hM) | (go_at_call 50; replace y0 := cell_grown hBd y0; replace y1 := cell_grown hBd y1; replace y2 := cell_grown hBd y2; replace y3 := cell_grown hBd y3; replace x0 := cell_grown hBd x0; replace x1 := cell_grown hBd x1; replace x2 := cell_grown hBd x2; replace e3 := cell_grown hBd e3; replace hS0 := hS0.grown hBd; replace hC0 := hC0.grown hBd; replace hI0 := hI0.grown hBd; replace hT := hT.grown hBd; refine (cutR_any L len long short to n cap a w5.drew HL.out hn60 hS0).mono ?_; rintro e w14 ⟨ra, rn, rc, rfl, hrn, HL2, hSu, hOu, hb14⟩; have hb514 := hBd.trans (hb14.mono hBd.size); replace y0 := cell_grown hb14 y0; replace y1 := cell_grown hb14 y1; replace y2 := cell_grown hb14 y2; replace y3 := cell_grown hb14 y3; replace x0 := cell_grown hb14 x0; replace x1 := cell_grown hb14 x1; replace x2 := cell_grown hb14 x2; replace e3 := cell_grown hb14 e3; replace hS0 := hS0.grown hb14; replace hC0 := hC0.grown hb14; replace hI0 := hI0.grown hb14; replace hT := hT.grown hb14))
        all_goals
          first
          | (with_reducible have hMw : w14.heap[w5.heap.size]? = some (.cells #[.int .i64 0, .slice none 0 0, .int .i64 0, .int .i64 0] 24 (0, 0)) := hM
             clear hMw
             obtain ⟨W15, bu, e1, e2, hB15, u0, u1, u2, u3, hSu'⟩ : ∃ (W15 : World) (bu : Nat), ((((w14.setCell ⟨w5.heap.size, 0, none⟩ (.int .i64 to)).setCell ⟨w5.heap.size, 1, none⟩ (.slice ra rn rc)).setCell ⟨w5.heap.size, 2, none⟩ (.int .i64 long)).setCell ⟨w5.heap.size, 3, none⟩ (.int .i64 short)) = W15 ∧ w5.heap.size = bu ∧ Below w5.heap.size w5 W15 ∧ W15.cell? ⟨bu, 0, none⟩ = some (.int .i64 to) ∧ W15.cell? ⟨bu, 1, none⟩ = some (.slice ra rn rc) ∧ W15.cell? ⟨bu, 2, none⟩ = some (.int .i64 long) ∧ W15.cell? ⟨bu, 3, none⟩ = some (.int .i64 short) ∧ Spans W15 ra (cutL to L) := by
               have hM1 := (heap_setCell_same w14 w5.heap.size 0 _ 24 (.int .i64 to) hM).trans rfl
               have hM2 := (heap_setCell_same _ w5.heap.size 1 _ 24 (.slice ra rn rc) hM1).trans rfl
               have hM3 := (heap_setCell_same _ w5.heap.size 2 _ 24 (.int .i64 long) hM2).trans rfl
               have hM4 := (heap_setCell_same _ w5.heap.size 3 _ 24 (.int .i64 short) hM3).trans rfl
               refine ⟨_, w5.heap.size, rfl, rfl, (((hb514.setCell (p := ⟨w5.heap.size, 0, none⟩) (Nat.le_refl _) _).setCell (p := ⟨w5.heap.size, 1, none⟩) (Nat.le_refl _) _).setCell (p := ⟨w5.heap.size, 2, none⟩) (Nat.le_refl _) _).setCell (p := ⟨w5.heap.size, 3, none⟩) (Nat.le_refl _) _, (cell_of_row _ w5.heap.size 0 _ _ _ hM4).trans rfl, (cell_of_row _ w5.heap.size 1 _ _ _ hM4).trans rfl, (cell_of_row _ w5.heap.size 2 _ _ _ hM4).trans rfl, (cell_of_row _ w5.heap.size 3 _ _ _ hM4).trans rfl, ?_⟩
               have hO1 := ownsRow_setCell_below (ownsRow_setCell_below (ownsRow_setCell_below (ownsRow_setCell_below hOu (a := ⟨w5.heap.size, 0, none⟩) (show w5.heap.size < Wa.heap.size by omega) (.int .i64 to)) (a := ⟨w5.heap.size, 1, none⟩) (show w5.heap.size < Wa.heap.size by omega) (.slice ra rn rc)) (a := ⟨w5.heap.size, 2, none⟩) (show w5.heap.size < Wa.heap.size by omega) (.int .i64 long)) (a := ⟨w5.heap.size, 3, none⟩) (show w5.heap.size < Wa.heap.size by omega) (.int .i64 short)
               exact spans_of_owns' HL2.out hO1
             rw [e1, e2])
          | (obtain ⟨W15, bu, e1, e2, hB15, u0, u1, u2, u3, hSu'⟩ : ∃ (W15 : World) (bu : Nat), w14.alloc (.cells #[.int .i64 to, .slice ra rn rc, .int .i64 long, .int .i64 short] 24) = W15 ∧ w14.heap.size = bu ∧ Below w5.heap.size w5 W15 ∧ W15.cell? ⟨bu, 0, none⟩ = some (.int .i64 to) ∧ W15.cell? ⟨bu, 1, none⟩ = some (.slice ra rn rc) ∧ W15.cell? ⟨bu, 2, none⟩ = some (.int .i64 long) ∧ W15.cell? ⟨bu, 3, none⟩ = some (.int .i64 short) ∧ Spans W15 ra (cutL to L) :=
               ⟨_, w14.heap.size, rfl, rfl, hb514.alloc hb514.size _, by simp [go_sem], by simp [go_sem], by simp [go_sem], by simp [go_sem], hSu.grown ((Below.refl _ _).alloc (Nat.le_refl _) _)⟩
             rw [e1, e2])
          clear e1 e2 hSu hOu hb14 hb514 y0 y1 y2 y3 x0 x1 x2 e3 hS0 hC0 hI0 hT
          clear hM m0 m1 m2 m3 f0 f1 f2 f3 hza hBa hWa hBd g1 g2 hlw0 hlw1
          have y0 := cell_grown hB15 zy0
          have y1 := cell_grown hB15 zy1
          have y2 := cell_grown hB15 zy2
          have y3 := cell_grown hB15 zy3
          have x0 := cell_grown hB15 zx0
          have x1 := cell_grown hB15 zx1
          have x2 := cell_grown hB15 zx2
          have hS0 := hS5.grown hB15
          have hC0 := hC5.grown hB15
          have hI0 := hI5.grown hB15
          have hT := hT5.grown hB15
          replace HB := hid (HB.out.trans (hB15.mono HB.out.size))
          clear hB15 zy0 zy1 zy2 zy3 zx0 zx1 zx2 hS5 hC5 hI5 hT5
          obtain ⟨L2, hL2⟩ : ∃ x, cutL to L = x := ⟨_, rfl⟩
          rw [hL2] at HF2 HP2 HB2 HL2 hSu'
          clear hL2
          have hBd : Below W15.heap.size W15 W15.drew := (Below.refl _ _).drew
          go_wp2_with fail
        all_goals
          go_region_held3 (fun w' : World => w'.cell? ⟨w.heap.size, 0, none⟩ = some (.int .i64 len) ∧ w'.cell? ⟨w.heap.size, 1, none⟩ = some (.slice a n cap) ∧ w'.cell? ⟨w.heap.size, 2, none⟩ = some (.int .i64 long) ∧ w'.cell? ⟨w.heap.size, 3, none⟩ = some (.int .i64 short) ∧ w'.cell? ⟨w.heap.size + 1, 0, none⟩ = some (.slice ca m cc) ∧ w'.cell? ⟨w.heap.size + 1, 1, none⟩ = some (.int .i64 due) ∧ w'.cell? ⟨w.heap.size + 1, 2, none⟩ = some (.int .i64 delay) ∧ w'.cell? ⟨bu, 0, none⟩ = some (.int .i64 to) ∧ w'.cell? ⟨bu, 1, none⟩ = some (.slice ra rn rc) ∧ w'.cell? ⟨bu, 2, none⟩ = some (.int .i64 long) ∧ w'.cell? ⟨bu, 3, none⟩ = some (.int .i64 short)) (exact ⟨y0, y1, y2, y3, x0, x1, x2, u0, u1, u2, u3⟩) (first | (go_at_call 18; replace y0 := cell_grown hBd y0; replace y1 := cell_grown hBd y1; replace y2 := cell_grown hBd y2; replace y3 := cell_grown hBd y3; replace x0 := cell_grown hBd x0; replace x1 := cell_grown hBd x1; replace x2 := cell_grown hBd x2; replace u0 := cell_grown hBd u0; replace u1 := cell_grown hBd u1; replace u2 := cell_grown hBd u2; replace u3 := cell_grown hBd u3; replace hS0 := hS0.grown hBd; replace hC0 := hC0.grown hBd; replace hI0 := hI0.grown hBd; replace hT := hT.grown hBd; replace hSu' := hSu'.grown hBd; replace HB := hid (HB.out.trans (hBd.mono HB.out.size)); refine (sitting_any L2 to long short rn rc ra _ HL2.out (by omega) hSu').mono ?_; rintro e w2 ⟨ra4, rc4, rfl, hSr, hb2⟩; replace y0 := cell_grown hb2 y0; replace y1 := cell_grown hb2 y1; replace y2 := cell_grown hb2 y2; replace y3 := cell_grown hb2 y3; replace x0 := cell_grown hb2 x0; replace x1 := cell_grown hb2 x1; replace x2 := cell_grown hb2 x2; replace u0 := cell_grown hb2 u0; replace u1 := cell_grown hb2 u1; replace u2 := cell_grown hb2 u2; replace u3 := cell_grown hb2 u3; replace hS0 := hS0.grown hb2; replace hC0 := hC0.grown hb2; replace hI0 := hI0.grown hb2; replace hT := hT.grown hb2; replace hSu' := hSu'.grown hb2; replace HB := hid (HB.out.trans (hb2.mono HB.out.size))) | (go_at_call 20; refine (office_any C due delay m cc ca _ HC.out (by omega) hC0).mono ?_; rintro e w3 ⟨rb, rd, rfl, hCr3, hb3⟩; replace y0 := cell_grown hb3 y0; replace y1 := cell_grown hb3 y1; replace y2 := cell_grown hb3 y2; replace y3 := cell_grown hb3 y3; replace x0 := cell_grown hb3 x0; replace x1 := cell_grown hb3 x1; replace x2 := cell_grown hb3 x2; replace u0 := cell_grown hb3 u0; replace u1 := cell_grown hb3 u1; replace u2 := cell_grown hb3 u2; replace u3 := cell_grown hb3 u3; replace hS0 := hS0.grown hb3; replace hC0 := hC0.grown hb3; replace hI0 := hI0.grown hb3; replace hT := hT.grown hb3; replace hSu' := hSu'.grown hb3; replace hSr := hSr.grown hb3; replace HB := hid (HB.out.trans (hb3.mono HB.out.size))) | (go_at_call 35; refine (list_any Z zn zc za _ HZ.out (by omega) hI0 HZA.out).mono ?_; rintro e w4 ⟨vz, rfl, hownz, hb4⟩; obtain ⟨rz2, rzc2, rfl⟩ := owns_shape hownz; have hIz2 := ints_of_owns1 HZ.out hownz; replace y0 := cell_grown hb4 y0; replace y1 := cell_grown hb4 y1; replace y2 := cell_grown hb4 y2; replace y3 := cell_grown hb4 y3; replace x0 := cell_grown hb4 x0; replace x1 := cell_grown hb4 x1; replace x2 := cell_grown hb4 x2; replace u0 := cell_grown hb4 u0; replace u1 := cell_grown hb4 u1; replace u2 := cell_grown hb4 u2; replace u3 := cell_grown hb4 u3; replace hS0 := hS0.grown hb4; replace hC0 := hC0.grown hb4; replace hI0 := hI0.grown hb4; replace hT := hT.grown hb4; replace hSu' := hSu'.grown hb4; replace hSr := hSr.grown hb4; replace hCr3 := hCr3.grown hb4; replace HB := hid (HB.out.trans (hb4.mono HB.out.size))) | (go_at_call 38; refine (prove_any L2 to long short due delay C Z rn rc4 m rd zn rzc2 ra4 rb rz2 _ HL2.out (by unfold maxLen; omega) hSr HC.out hm hCr3 HZ.out (by unfold maxLen; omega) hIz2).mono ?_; rw [HP2.out]; rintro e w17 ⟨rfl, hb5⟩; replace y0 := cell_grown hb5 y0; replace y1 := cell_grown hb5 y1; replace y2 := cell_grown hb5 y2; replace y3 := cell_grown hb5 y3; replace x0 := cell_grown hb5 x0; replace x1 := cell_grown hb5 x1; replace x2 := cell_grown hb5 x2; replace u0 := cell_grown hb5 u0; replace u1 := cell_grown hb5 u1; replace u2 := cell_grown hb5 u2; replace u3 := cell_grown hb5 u3; replace hS0 := hS0.grown hb5; replace hC0 := hC0.grown hb5; replace hI0 := hI0.grown hb5; replace hT := hT.grown hb5; replace hSu' := hSu'.grown hb5; replace HB := hid (HB.out.trans (hb5.mono HB.out.size))))
          clear hb2 hb3 hb4 hb5 hSr hCr3 hIz2 hownz hBd
          have hBd : Below w17.heap.size w17 w17.drew := (Below.refl _ _).drew
          go_wp2_with fail
          go_region_held3 (fun w' : World => w'.cell? ⟨w.heap.size, 0, none⟩ = some (.int .i64 len) ∧ w'.cell? ⟨w.heap.size, 1, none⟩ = some (.slice a n cap) ∧ w'.cell? ⟨w.heap.size, 2, none⟩ = some (.int .i64 long) ∧ w'.cell? ⟨w.heap.size, 3, none⟩ = some (.int .i64 short) ∧ w'.cell? ⟨w.heap.size + 1, 0, none⟩ = some (.slice ca m cc) ∧ w'.cell? ⟨w.heap.size + 1, 1, none⟩ = some (.int .i64 due) ∧ w'.cell? ⟨w.heap.size + 1, 2, none⟩ = some (.int .i64 delay) ∧ w'.cell? ⟨bu, 0, none⟩ = some (.int .i64 to) ∧ w'.cell? ⟨bu, 1, none⟩ = some (.slice ra rn rc) ∧ w'.cell? ⟨bu, 2, none⟩ = some (.int .i64 long) ∧ w'.cell? ⟨bu, 3, none⟩ = some (.int .i64 short)) (exact ⟨y0, y1, y2, y3, x0, x1, x2, u0, u1, u2, u3⟩) (first | (go_at_call 18; replace y0 := cell_grown hBd y0; replace y1 := cell_grown hBd y1; replace y2 := cell_grown hBd y2; replace y3 := cell_grown hBd y3; replace x0 := cell_grown hBd x0; replace x1 := cell_grown hBd x1; replace x2 := cell_grown hBd x2; replace u0 := cell_grown hBd u0; replace u1 := cell_grown hBd u1; replace u2 := cell_grown hBd u2; replace u3 := cell_grown hBd u3; replace hS0 := hS0.grown hBd; replace hC0 := hC0.grown hBd; replace hI0 := hI0.grown hBd; replace hT := hT.grown hBd; replace hSu' := hSu'.grown hBd; replace HB := hid (HB.out.trans (hBd.mono HB.out.size)); refine (sitting_any L2 to long short rn rc ra _ HL2.out (by omega) hSu').mono ?_; rintro e w2 ⟨ra4, rc4, rfl, hSr, hb2⟩; replace y0 := cell_grown hb2 y0; replace y1 := cell_grown hb2 y1; replace y2 := cell_grown hb2 y2; replace y3 := cell_grown hb2 y3; replace x0 := cell_grown hb2 x0; replace x1 := cell_grown hb2 x1; replace x2 := cell_grown hb2 x2; replace u0 := cell_grown hb2 u0; replace u1 := cell_grown hb2 u1; replace u2 := cell_grown hb2 u2; replace u3 := cell_grown hb2 u3; replace hS0 := hS0.grown hb2; replace hC0 := hC0.grown hb2; replace hI0 := hI0.grown hb2; replace hT := hT.grown hb2; replace hSu' := hSu'.grown hb2; replace HB := hid (HB.out.trans (hb2.mono HB.out.size))) | (go_at_call 20; refine (office_any C due delay m cc ca _ HC.out (by omega) hC0).mono ?_; rintro e w3 ⟨rb, rd, rfl, hCr3, hb3⟩; replace y0 := cell_grown hb3 y0; replace y1 := cell_grown hb3 y1; replace y2 := cell_grown hb3 y2; replace y3 := cell_grown hb3 y3; replace x0 := cell_grown hb3 x0; replace x1 := cell_grown hb3 x1; replace x2 := cell_grown hb3 x2; replace u0 := cell_grown hb3 u0; replace u1 := cell_grown hb3 u1; replace u2 := cell_grown hb3 u2; replace u3 := cell_grown hb3 u3; replace hS0 := hS0.grown hb3; replace hC0 := hC0.grown hb3; replace hI0 := hI0.grown hb3; replace hT := hT.grown hb3; replace hSu' := hSu'.grown hb3; replace hSr := hSr.grown hb3; replace HB := hid (HB.out.trans (hb3.mono HB.out.size))) | (go_at_call 29; refine (rota_any L2 to long short due delay C rn rc4 m rd ra4 rb _ HL2.out (by unfold maxLen; omega) hSr HC.out hm hCr3).mono ?_; intro e w18 hpost; obtain ⟨va3, vn3, vc3, er, R3, rfl, hb10, hRn3, hRI3, HRO3⟩ := rota_one hpost HF2.out; replace y0 := cell_grown hb10 y0; replace y1 := cell_grown hb10 y1; replace y2 := cell_grown hb10 y2; replace y3 := cell_grown hb10 y3; replace x0 := cell_grown hb10 x0; replace x1 := cell_grown hb10 x1; replace x2 := cell_grown hb10 x2; replace u0 := cell_grown hb10 u0; replace u1 := cell_grown hb10 u1; replace u2 := cell_grown hb10 u2; replace u3 := cell_grown hb10 u3; replace hS0 := hS0.grown hb10; replace hC0 := hC0.grown hb10; replace hI0 := hI0.grown hb10; replace hT := hT.grown hb10; replace hSu' := hSu'.grown hb10; replace HB := hid (HB.out.trans (hb10.mono HB.out.size))))
          rcases HRO3.out with ⟨_, hbest⟩ | ⟨her, _, _⟩
          · exact (HB2.out _ hbest).elim
          subst her
          clear hpost hb2 hb3 hb10 hSr hCr3 hBd HRO3 hRn3 hRI3
          by_cases hq0 : q = 0
          · subst hq0
            go_wp2_with fail
            refine (awake_any w18).mono ?_
            rintro e w' ⟨rfl, hb⟩
            go_wp2
            go_ret
            exact ⟨rfl, HB.out.trans (hb.mono HB.out.size)⟩
          obtain ⟨q', hq'⟩ : ∃ q', q = q' + 1 := ⟨q - 1, by omega⟩
          obtain ⟨HF3, HR3⟩ := HW3.out q' hq'
          have hqv' : q' < (takesOf len long short L).length := by rw [HVN.out]; omega
          obtain ⟨bt', ot', ea, -, e4⟩ := hT q' hqv'
          simp only [Option.some.injEq, Addr.mk.injEq, and_true] at ea
          obtain ⟨rfl, rfl⟩ := ea
          obtain ⟨to3, hto3⟩ : ∃ t, ((takesOf len long short L).getD q' (0, 0)).2 = t := ⟨_, rfl⟩
          rw [hto3] at e4 HF3 HR3
          replace HF3 := hid HF3
          replace HR3 := hid HR3
          clear hto3
          have k1 : ((q : Int) == 0) = false := by simp; omega
          have k2 : ¬ (q : Int) = 0 := by omega
          have k3 : IntKind.i64.wrap ((q : Int) - 1) = (q' : Int) := by rw [IntKind.wrap_i64]; omega
          have hqi' : (q' : Int) < vn := by omega
          have g1 := lt_of_cell e4
          have g2 := lt_of_cell y1
          replace hq' := hid hq'
          have hBd : Below w18.heap.size w18 w18.drew := (Below.refl _ _).drew
          go_wp2_with fail
          go_region_held3 (fun w' : World => w'.cell? ⟨w.heap.size, 0, none⟩ = some (.int .i64 len) ∧ w'.cell? ⟨w.heap.size, 1, none⟩ = some (.slice a n cap) ∧ w'.cell? ⟨w.heap.size, 2, none⟩ = some (.int .i64 long) ∧ w'.cell? ⟨w.heap.size, 3, none⟩ = some (.int .i64 short) ∧ w'.cell? ⟨w.heap.size + 1, 0, none⟩ = some (.slice ca m cc) ∧ w'.cell? ⟨w.heap.size + 1, 1, none⟩ = some (.int .i64 due) ∧ w'.cell? ⟨w.heap.size + 1, 2, none⟩ = some (.int .i64 delay) ∧ w'.cell? ⟨bt, ot + q' * 2 + 1, none⟩ = some (.int .i64 to3)) (exact ⟨y0, y1, y2, y3, x0, x1, x2, e4⟩) (first | (go_at_call 50; replace y0 := cell_grown hBd y0; replace y1 := cell_grown hBd y1; replace y2 := cell_grown hBd y2; replace y3 := cell_grown hBd y3; replace x0 := cell_grown hBd x0; replace x1 := cell_grown hBd x1; replace x2 := cell_grown hBd x2; replace e4 := cell_grown hBd e4; replace hS0 := hS0.grown hBd; replace hC0 := hC0.grown hBd; replace HB := hid (HB.out.trans (hBd.mono HB.out.size)); refine (cutR_any L len long short to3 n cap a _ HL.out hn60 hS0).mono ?_; rintro e w19 ⟨ra3, rn3, rc3, rfl, hrn3, HL3, hSu3, -, hb15⟩; replace y0 := cell_grown hb15 y0; replace y1 := cell_grown hb15 y1; replace y2 := cell_grown hb15 y2; replace y3 := cell_grown hb15 y3; replace x0 := cell_grown hb15 x0; replace x1 := cell_grown hb15 x1; replace x2 := cell_grown hb15 x2; replace e4 := cell_grown hb15 e4; replace hS0 := hS0.grown hb15; replace hC0 := hC0.grown hb15; replace HB := hid (HB.out.trans (hb15.mono HB.out.size))) | (go_at_call 18; refine (sitting_any (cutL to3 L) to3 long short rn3 rc3 ra3 _ HL3.out (by omega) hSu3).mono ?_; rintro e w2 ⟨ra4, rc4, rfl, hSr, hb2⟩; replace y0 := cell_grown hb2 y0; replace y1 := cell_grown hb2 y1; replace y2 := cell_grown hb2 y2; replace y3 := cell_grown hb2 y3; replace x0 := cell_grown hb2 x0; replace x1 := cell_grown hb2 x1; replace x2 := cell_grown hb2 x2; replace e4 := cell_grown hb2 e4; replace hS0 := hS0.grown hb2; replace hC0 := hC0.grown hb2; replace HB := hid (HB.out.trans (hb2.mono HB.out.size))) | (go_at_call 20; refine (office_any C due delay m cc ca _ HC.out (by omega) hC0).mono ?_; rintro e w3 ⟨rb, rd, rfl, hCr3, hb3⟩; replace y0 := cell_grown hb3 y0; replace y1 := cell_grown hb3 y1; replace y2 := cell_grown hb3 y2; replace y3 := cell_grown hb3 y3; replace x0 := cell_grown hb3 x0; replace x1 := cell_grown hb3 x1; replace x2 := cell_grown hb3 x2; replace e4 := cell_grown hb3 e4; replace hS0 := hS0.grown hb3; replace hC0 := hC0.grown hb3; replace hSr := hSr.grown hb3; replace HB := hid (HB.out.trans (hb3.mono HB.out.size))) | (go_at_call 29; refine (rota_any (cutL to3 L) to3 long short due delay C rn3 rc4 m rd ra4 rb _ HL3.out (by unfold maxLen; omega) hSr HC.out hm hCr3).mono ?_; intro e w20 hpost; obtain ⟨va4, vn4, vc4, er, R4, rfl, hb10, hRn4, hRI4, HRO4⟩ := rota_one hpost HF3.out; replace y0 := cell_grown hb10 y0; replace y1 := cell_grown hb10 y1; replace y2 := cell_grown hb10 y2; replace y3 := cell_grown hb10 y3; replace x0 := cell_grown hb10 x0; replace x1 := cell_grown hb10 x1; replace x2 := cell_grown hb10 x2; replace e4 := cell_grown hb10 e4; replace hS0 := hS0.grown hb10; replace hC0 := hC0.grown hb10; replace HB := hid (HB.out.trans (hb10.mono HB.out.size))))
          rcases HRO4.out with ⟨her, _⟩ | ⟨_, _, rc4, hrc4, hdead4⟩
          · subst her
            clear hpost hb2 hb3 hb10 hb15 hSr hCr3 hBd HRO4 hRn4 hRI4
            go_wp2_with fail
            refine (awake_any w20).mono ?_
            rintro e w' ⟨rfl, hb⟩
            go_wp2
            go_ret
            exact ⟨rfl, HB.out.trans (hb.mono HB.out.size)⟩
          · exact (HR3.out _ hrc4 hdead4).elim

end Go.Proofs.Ytgapbaelifcifaa
