/- The law TakeCuts: its walk. -/
import Derived.Test.YtgapbaelifcifaaCN
import Derived.Test.YtgapbaelifcifaaDB
import Derived.Test.YtgapbaelifcifaaMB
import Derived.Test.YtgapbaelifcifaaEA
import Derived.Test.YtgapbaelifcifaaEB
import Derived.Test.YtgapbaelifcifaaCC
import Derived.Deep.RegionHeld3
namespace Go.Proofs.Ytgapbaelifcifaa
open Go.RowKit

theorem hits_pos {sec : Int} {X : List (Int × Int)} {i : Nat} (hi : i < X.length) (h : inB sec (X.getD i (0, 0)).1 ((X.getD i (0, 0)).2 - 1) = true) : 0 < hits sec X := by
  rw [List.getD_eq_getElem?_getD, List.getElem?_eq_getElem hi, Option.getD_some] at h
  unfold hits
  refine List.length_pos_of_mem (a := X[i]) (List.mem_filter.2 ⟨List.getElem_mem hi, ?_⟩)
  simp only [inB, decide_eq_true_eq] at h ⊢
  omega

theorem hits_zero {sec : Int} {X : List (Int × Int)} (h : ∀ j, j < X.length → inB sec (X.getD j (0, 0)).1 ((X.getD j (0, 0)).2 - 1) = false) : hits sec X = 0 := by
  unfold hits
  rw [List.length_eq_zero_iff, List.filter_eq_nil_iff]
  intro x hx
  obtain ⟨i, hi, rfl⟩ := List.mem_iff_getElem.1 hx
  have := h i hi
  rw [List.getD_eq_getElem?_getD, List.getElem?_eq_getElem hi, Option.getD_some] at this
  simp only [inB, decide_eq_false_iff_not] at this
  simp only [decide_eq_true_eq]
  omega

/-- What is wrong with an office, if anything is. -/
def offErr (due delay : Int) (C : List (Int × Int × Int)) : Int := if offOk due delay C = true then 0 else 1

theorem checkOffice_err (C : List (Int × Int × Int)) (due delay : Int) (n cap : Nat) (a : Option Addr) (w : World) (hL : C.length = n) (hn : n ≤ maxLen) (hS : Crew w a C) :
    Calls Try.prog 19 #[.agg #[.slice a n cap, .int .i64 due, .int .i64 delay]] w fun e w' => e = .returned (.int .i64 (offErr due delay C)) ∧ Below w.heap.size w w' :=
  checkOffice_any C due delay n cap a w hL hn hS

set_option maxRecDepth 100000 in
set_option maxHeartbeats 40000000 in
theorem takeCuts_any (L : List (Int × Int)) (len long short : Int) (n cap : Nat) (a : Option Addr) (C : List (Int × Int × Int)) (due delay : Int) (m cc : Nat) (ca : Option Addr) (sec : Int) (w : World)
    (hL : L.length = n) (hn : n ≤ maxLen) (hS : Spans w a L) (hC : C.length = m) (hm : m ≤ maxLen) (hCr : Crew w ca C) :
    Calls Try.prog 3 #[.agg #[.int .i64 len, .slice a n cap, .int .i64 long, .int .i64 short], .agg #[.slice ca m cc, .int .i64 due, .int .i64 delay], .int .i64 sec] w fun e w' => e = .returned (.bool true) ∧ Below w.heap.size w w' := by
  have hn' := hn
  have hm' := hm
  unfold maxLen at hn' hm'
  have HL := hid hL
  have HC := hid hC
  clear hL hC
  go_enter Try.func3, Try.ntmps3
  go_wp2_with fail
  obtain ⟨W0, hW0⟩ : ∃ W0, W0 = (w.alloc (.cells #[.int .i64 len, .slice a n cap, .int .i64 long, .int .i64 short] 24)).alloc (.cells #[.slice ca m cc, .int .i64 due, .int .i64 delay] 27) := ⟨_, rfl⟩
  have hB0 : Below w.heap.size w W0 := by rw [hW0]; exact ((Below.refl _ w).alloc (Nat.le_refl _) _).alloc (by simp) _
  have z0 : W0.heap.size = w.heap.size + 2 := by rw [hW0]; simp
  have y0 : W0.cell? ⟨w.heap.size, 0, none⟩ = some (.int .i64 len) := by rw [hW0]; simp [go_sem]
  have y1 : W0.cell? ⟨w.heap.size, 1, none⟩ = some (.slice a n cap) := by rw [hW0]; simp [go_sem]
  have y2 : W0.cell? ⟨w.heap.size, 2, none⟩ = some (.int .i64 long) := by rw [hW0]; simp [go_sem]
  have y3 : W0.cell? ⟨w.heap.size, 3, none⟩ = some (.int .i64 short) := by rw [hW0]; simp [go_sem]
  have x0 : W0.cell? ⟨w.heap.size + 1, 0, none⟩ = some (.slice ca m cc) := by rw [hW0]; simp [go_sem]
  have x1 : W0.cell? ⟨w.heap.size + 1, 1, none⟩ = some (.int .i64 due) := by rw [hW0]; simp [go_sem]
  have x2 : W0.cell? ⟨w.heap.size + 1, 2, none⟩ = some (.int .i64 delay) := by rw [hW0]; simp [go_sem]
  rw [← hW0]
  clear hW0
  have hS0 := hS.grown hB0
  have hC0 := hCr.grown hB0
  refine (thin_any len long short due delay n cap m cc a ca W0 hn hm).mono ?_
  obtain ⟨th, hth⟩ : ∃ b, (decide (n ≤ 60) && decide (m ≤ 8)) = b := ⟨_, rfl⟩
  rw [hth]
  rintro e w1 ⟨rfl, hb1⟩
  replace y0 := cell_grown hb1 y0
  replace y1 := cell_grown hb1 y1
  replace y2 := cell_grown hb1 y2
  replace y3 := cell_grown hb1 y3
  replace x0 := cell_grown hb1 x0
  replace x1 := cell_grown hb1 x1
  replace x2 := cell_grown hb1 x2
  replace hS0 := hS0.grown hb1
  replace hC0 := hC0.grown hb1
  have hB1 := hB0.trans (hb1.mono (by omega))
  clear hb1 hB0 hS hCr
  cases th
  · go_wp2_with fail
    refine (awake_any w1).mono ?_
    rintro e w' ⟨rfl, hb⟩
    go_wp2
    go_ret
    exact ⟨rfl, hB1.trans (hb.mono (by have := hB1.size; omega))⟩
  · have hth' : n ≤ 60 ∧ m ≤ 8 := by simpa using hth
    clear hth
    obtain ⟨hn60, hm8⟩ := hth'
    go_wp2_with fail
    have hBd : Below w1.heap.size w1 w1.drew := (Below.refl _ _).drew
    go_region_held3 (fun w' : World => w'.cell? ⟨w.heap.size, 0, none⟩ = some (.int .i64 len) ∧ w'.cell? ⟨w.heap.size, 1, none⟩ = some (.slice a n cap) ∧ w'.cell? ⟨w.heap.size, 2, none⟩ = some (.int .i64 long) ∧ w'.cell? ⟨w.heap.size, 3, none⟩ = some (.int .i64 short) ∧ w'.cell? ⟨w.heap.size + 1, 0, none⟩ = some (.slice ca m cc) ∧ w'.cell? ⟨w.heap.size + 1, 1, none⟩ = some (.int .i64 due) ∧ w'.cell? ⟨w.heap.size + 1, 2, none⟩ = some (.int .i64 delay)) (exact ⟨y0, y1, y2, y3, x0, x1, x2⟩) (first | (go_at_call 18; go_loud (replace y0 := cell_grown hBd y0; replace y1 := cell_grown hBd y1; replace y2 := cell_grown hBd y2; replace y3 := cell_grown hBd y3; replace x0 := cell_grown hBd x0; replace x1 := cell_grown hBd x1; replace x2 := cell_grown hBd x2; replace hS0 := hS0.grown hBd; replace hC0 := hC0.grown hBd; refine (sitting_any L len long short n cap a _ HL.out hn60 hS0).mono ?_; rintro e w2 ⟨ra, rc, rfl, hSr, hb2⟩; have hB2 := hB1.trans ((hBd.trans (hb2.mono (Nat.le_refl _))).mono hB1.size); replace y0 := cell_grown hb2 y0; replace y1 := cell_grown hb2 y1; replace y2 := cell_grown hb2 y2; replace y3 := cell_grown hb2 y3; replace x0 := cell_grown hb2 x0; replace x1 := cell_grown hb2 x1; replace x2 := cell_grown hb2 x2; replace hS0 := hS0.grown hb2; replace hC0 := hC0.grown hb2)) | (go_at_call 17; refine (checkSitting_any L len long short n rc ra _ HL.out hn hSr).mono ?_; rintro e w3 ⟨rfl, hb3⟩; have hB3 := hB2.trans (hb3.mono hB2.size); replace y0 := cell_grown hb3 y0; replace y1 := cell_grown hb3 y1; replace y2 := cell_grown hb3 y2; replace y3 := cell_grown hb3 y3; replace x0 := cell_grown hb3 x0; replace x1 := cell_grown hb3 x1; replace x2 := cell_grown hb3 x2; replace hS0 := hS0.grown hb3; replace hC0 := hC0.grown hb3) | (go_at_call 20; refine (office_any C due delay m cc ca _ HC.out (by omega) hC0).mono ?_; rintro e w4 ⟨rb, rd, rfl, hCr4, hb4⟩; have hB4 := hB3.trans (hb4.mono hB3.size); replace y0 := cell_grown hb4 y0; replace y1 := cell_grown hb4 y1; replace y2 := cell_grown hb4 y2; replace y3 := cell_grown hb4 y3; replace x0 := cell_grown hb4 x0; replace x1 := cell_grown hb4 x1; replace x2 := cell_grown hb4 x2; replace hS0 := hS0.grown hb4; replace hC0 := hC0.grown hb4) | (go_at_call 19; refine (checkOffice_err C due delay m rd rb _ HC.out hm hCr4).mono ?_; rintro e w5 ⟨rfl, hb5⟩; have hB5 := hB4.trans (hb5.mono hB4.size); replace y0 := cell_grown hb5 y0; replace y1 := cell_grown hb5 y1; replace y2 := cell_grown hb5 y2; replace y3 := cell_grown hb5 y3; replace x0 := cell_grown hb5 x0; replace x1 := cell_grown hb5 x1; replace x2 := cell_grown hb5 x2; replace hS0 := hS0.grown hb5; replace hC0 := hC0.grown hb5))
    clear hb2 hb3 hb4 hb5 hB1 hB2 hB3 hB4 hSr hCr4 hBd
    have HB := hid hB5
    clear hB5
    obtain ⟨d, hd⟩ : ∃ d, offErr due delay C = d := ⟨_, rfl⟩
    obtain ⟨f0, hf0⟩ : ∃ d, sitErr len long short L = d := ⟨_, rfl⟩
    rw [hd, hf0]
    have HD := hid hd
    have HF := hid hf0
    clear hd hf0
    go_wp2_with fail
    refine (sitting_any L len long short n cap a w5 HL.out hn60 hS0).mono ?_
    rintro e w6 ⟨rb, rd, rfl, hSr, hb6⟩
    replace y0 := cell_grown hb6 y0
    replace y1 := cell_grown hb6 y1
    replace y2 := cell_grown hb6 y2
    replace y3 := cell_grown hb6 y3
    replace x0 := cell_grown hb6 x0
    replace x1 := cell_grown hb6 x1
    replace x2 := cell_grown hb6 x2
    replace hS0 := hS0.grown hb6
    replace hC0 := hC0.grown hb6
    replace HB := hid (HB.out.trans (hb6.mono HB.out.size))
    clear hb6
    go_wp2_with fail
    refine (takes_any L len long short n rd rb w6 HL.out hn hSr).mono ?_
    intro e w7 h
    rcases cutPost_cases h with ⟨h1, hb7, rfl⟩ | ⟨h1, h2, hb7, rfl⟩ | ⟨ta, tc, q, hq, h1, h40, hb7, rfl, hT, _⟩
    · have E0 : sitErr len long short L = 1 := by unfold sitErr; rw [if_pos h1]
      have hf : f0 = 1 := by rw [← HF.out, E0]
      subst hf
      have EA : atM len long short sec L = (0, 1) := by unfold atM; rw [E0, if_neg (by decide)]
      replace y0 := cell_grown hb7 y0
      replace y1 := cell_grown hb7 y1
      replace y2 := cell_grown hb7 y2
      replace y3 := cell_grown hb7 y3
      replace x0 := cell_grown hb7 x0
      replace x1 := cell_grown hb7 x1
      replace x2 := cell_grown hb7 x2
      replace hS0 := hS0.grown hb7
      replace hC0 := hC0.grown hb7
      replace HB := hid (HB.out.trans (hb7.mono HB.out.size))
      clear hb7 h hSr E0
      go_wp2_with fail
      refine (sitting_any L len long short n cap a w7 HL.out hn60 hS0).mono ?_
      rintro e w8 ⟨ru, rv, rfl, hSr2, hb8⟩
      replace y0 := cell_grown hb8 y0
      replace y1 := cell_grown hb8 y1
      replace y2 := cell_grown hb8 y2
      replace y3 := cell_grown hb8 y3
      replace x0 := cell_grown hb8 x0
      replace x1 := cell_grown hb8 x1
      replace x2 := cell_grown hb8 x2
      replace hS0 := hS0.grown hb8
      replace hC0 := hC0.grown hb8
      replace HB := hid (HB.out.trans (hb8.mono HB.out.size))
      clear hb8
      go_wp2_with fail
      refine (atT_any L len long short sec n rv ru w8 HL.out hn hSr2).mono ?_
      rw [EA]
      rintro e w9 ⟨rfl, hb9⟩
      replace y0 := cell_grown hb9 y0
      replace y1 := cell_grown hb9 y1
      replace y2 := cell_grown hb9 y2
      replace y3 := cell_grown hb9 y3
      replace x0 := cell_grown hb9 x0
      replace x1 := cell_grown hb9 x1
      replace x2 := cell_grown hb9 x2
      replace hS0 := hS0.grown hb9
      replace hC0 := hC0.grown hb9
      replace HB := hid (HB.out.trans (hb9.mono HB.out.size))
      clear hb9 hSr2 EA
      cases hoff : offOk due delay C
      all_goals
        have HOFF := hid hoff
        have hdv : d = offErr due delay C := HD.out.symm
        unfold offErr at hdv
        rw [hoff] at hdv
        simp at hdv
        subst hdv
        clear hoff
        go_wp2_with fail
        refine (rightOffice_any C due delay m cc ca w9 HC.out hm hC0).mono ?_
        rintro e w10 ⟨rfl, hb10⟩
        rw [HOFF.out]
        replace y0 := cell_grown hb10 y0
        replace y1 := cell_grown hb10 y1
        replace y2 := cell_grown hb10 y2
        replace y3 := cell_grown hb10 y3
        replace x0 := cell_grown hb10 x0
        replace x1 := cell_grown hb10 x1
        replace x2 := cell_grown hb10 x2
        replace hS0 := hS0.grown hb10
        replace hC0 := hC0.grown hb10
        replace HB := hid (HB.out.trans (hb10.mono HB.out.size))
        clear hb10
        go_wp2_with fail
        refine (fault_any L len long short n cap a w10 HL.out hn60 hS0).mono ?_
        rintro e w11 ⟨rfl, hb11⟩
        rw [HF.out]
        replace y0 := cell_grown hb11 y0
        replace y1 := cell_grown hb11 y1
        replace y2 := cell_grown hb11 y2
        replace y3 := cell_grown hb11 y3
        replace x0 := cell_grown hb11 x0
        replace x1 := cell_grown hb11 x1
        replace x2 := cell_grown hb11 x2
        replace hS0 := hS0.grown hb11
        replace hC0 := hC0.grown hb11
        replace HB := hid (HB.out.trans (hb11.mono HB.out.size))
        clear hb11
        go_wp2_with fail
        refine (awake_any w11).mono ?_
        rintro e w' ⟨rfl, hb⟩
        go_wp2
        go_ret
        exact ⟨rfl, HB.out.trans (hb.mono HB.out.size)⟩
    · have E0 : sitErr len long short L = 3 := by unfold sitErr; rw [if_neg (by rw [h1]; simp), if_pos h2]
      have hf : f0 = 3 := by rw [← HF.out, E0]
      subst hf
      have EA : atM len long short sec L = (0, 3) := by unfold atM; rw [E0, if_neg (by decide)]
      replace y0 := cell_grown hb7 y0
      replace y1 := cell_grown hb7 y1
      replace y2 := cell_grown hb7 y2
      replace y3 := cell_grown hb7 y3
      replace x0 := cell_grown hb7 x0
      replace x1 := cell_grown hb7 x1
      replace x2 := cell_grown hb7 x2
      replace hS0 := hS0.grown hb7
      replace hC0 := hC0.grown hb7
      replace HB := hid (HB.out.trans (hb7.mono HB.out.size))
      clear hb7 h hSr E0
      go_wp2_with fail
      refine (sitting_any L len long short n cap a w7 HL.out hn60 hS0).mono ?_
      rintro e w8 ⟨ru, rv, rfl, hSr2, hb8⟩
      replace y0 := cell_grown hb8 y0
      replace y1 := cell_grown hb8 y1
      replace y2 := cell_grown hb8 y2
      replace y3 := cell_grown hb8 y3
      replace x0 := cell_grown hb8 x0
      replace x1 := cell_grown hb8 x1
      replace x2 := cell_grown hb8 x2
      replace hS0 := hS0.grown hb8
      replace hC0 := hC0.grown hb8
      replace HB := hid (HB.out.trans (hb8.mono HB.out.size))
      clear hb8
      go_wp2_with fail
      refine (atT_any L len long short sec n rv ru w8 HL.out hn hSr2).mono ?_
      rw [EA]
      rintro e w9 ⟨rfl, hb9⟩
      replace y0 := cell_grown hb9 y0
      replace y1 := cell_grown hb9 y1
      replace y2 := cell_grown hb9 y2
      replace y3 := cell_grown hb9 y3
      replace x0 := cell_grown hb9 x0
      replace x1 := cell_grown hb9 x1
      replace x2 := cell_grown hb9 x2
      replace hS0 := hS0.grown hb9
      replace hC0 := hC0.grown hb9
      replace HB := hid (HB.out.trans (hb9.mono HB.out.size))
      clear hb9 hSr2 EA
      cases hoff : offOk due delay C
      all_goals
        have HOFF := hid hoff
        have hdv : d = offErr due delay C := HD.out.symm
        unfold offErr at hdv
        rw [hoff] at hdv
        simp at hdv
        subst hdv
        clear hoff
        go_wp2_with fail
        refine (rightOffice_any C due delay m cc ca w9 HC.out hm hC0).mono ?_
        rintro e w10 ⟨rfl, hb10⟩
        rw [HOFF.out]
        replace y0 := cell_grown hb10 y0
        replace y1 := cell_grown hb10 y1
        replace y2 := cell_grown hb10 y2
        replace y3 := cell_grown hb10 y3
        replace x0 := cell_grown hb10 x0
        replace x1 := cell_grown hb10 x1
        replace x2 := cell_grown hb10 x2
        replace hS0 := hS0.grown hb10
        replace hC0 := hC0.grown hb10
        replace HB := hid (HB.out.trans (hb10.mono HB.out.size))
        clear hb10
        go_wp2_with fail
        refine (fault_any L len long short n cap a w10 HL.out hn60 hS0).mono ?_
        rintro e w11 ⟨rfl, hb11⟩
        rw [HF.out]
        replace y0 := cell_grown hb11 y0
        replace y1 := cell_grown hb11 y1
        replace y2 := cell_grown hb11 y2
        replace y3 := cell_grown hb11 y3
        replace x0 := cell_grown hb11 x0
        replace x1 := cell_grown hb11 x1
        replace x2 := cell_grown hb11 x2
        replace hS0 := hS0.grown hb11
        replace hC0 := hC0.grown hb11
        replace HB := hid (HB.out.trans (hb11.mono HB.out.size))
        clear hb11
        go_wp2_with fail
        refine (awake_any w11).mono ?_
        rintro e w' ⟨rfl, hb⟩
        go_wp2
        go_ret
        exact ⟨rfl, HB.out.trans (hb.mono HB.out.size)⟩
    · have E0 : sitErr len long short L = 0 := by unfold sitErr; rw [if_neg (by rw [h1]; simp), if_neg (by omega)]
      have hf : f0 = 0 := by rw [← HF.out, E0]
      subst hf
      have HE0 := hid E0
      have HOK := hid h1
      have hlen := (sitOk_parts h1).1
      have hAll := hid (takes_all h1)
      obtain ⟨T, hTT⟩ : ∃ T, takesOf len long short L = T := ⟨_, rfl⟩
      have HTT := hid hTT
      rw [hTT] at hT hq hAll
      have HQ := hid hq
      replace y0 := cell_grown hb7 y0
      replace y1 := cell_grown hb7 y1
      replace y2 := cell_grown hb7 y2
      replace y3 := cell_grown hb7 y3
      replace x0 := cell_grown hb7 x0
      replace x1 := cell_grown hb7 x1
      replace x2 := cell_grown hb7 x2
      replace hS0 := hS0.grown hb7
      replace hC0 := hC0.grown hb7
      replace HB := hid (HB.out.trans (hb7.mono HB.out.size))
      clear hb7 h hSr E0 h1 hTT hq
      go_wp2_with fail
      refine (sitting_any L len long short n cap a w7 HL.out hn60 hS0).mono ?_
      rintro e w8 ⟨ru, rv, rfl, hSr2, hb8⟩
      replace y0 := cell_grown hb8 y0
      replace y1 := cell_grown hb8 y1
      replace y2 := cell_grown hb8 y2
      replace y3 := cell_grown hb8 y3
      replace x0 := cell_grown hb8 x0
      replace x1 := cell_grown hb8 x1
      replace x2 := cell_grown hb8 x2
      replace hS0 := hS0.grown hb8
      replace hC0 := hC0.grown hb8
      replace HB := hid (HB.out.trans (hb8.mono HB.out.size))
      replace hT := hT.grown hb8
      clear hb8
      go_wp2_with fail
      refine (atT_any L len long short sec n rv ru w8 HL.out hn hSr2).mono ?_
      obtain ⟨r1, hr1⟩ : ∃ r, (atM len long short sec L).1 = r := ⟨_, rfl⟩
      obtain ⟨r2, hr2⟩ : ∃ r, (atM len long short sec L).2 = r := ⟨_, rfl⟩
      rw [hr1, hr2]
      have HR1 := hid hr1
      have HR2 := hid hr2
      clear hr1 hr2
      rintro e w9 ⟨rfl, hb9⟩
      replace y0 := cell_grown hb9 y0
      replace y1 := cell_grown hb9 y1
      replace y2 := cell_grown hb9 y2
      replace y3 := cell_grown hb9 y3
      replace x0 := cell_grown hb9 x0
      replace x1 := cell_grown hb9 x1
      replace x2 := cell_grown hb9 x2
      replace hS0 := hS0.grown hb9
      replace hC0 := hC0.grown hb9
      replace HB := hid (HB.out.trans (hb9.mono HB.out.size))
      replace hT := hT.grown hb9
      clear hb9 hSr2
      cases hoff : offOk due delay C
      all_goals
        have HOFF := hid hoff
        have hdv : d = offErr due delay C := HD.out.symm
        unfold offErr at hdv
        rw [hoff] at hdv
        simp at hdv
        subst hdv
        clear hoff
        go_wp2_with fail
        refine (rightOffice_any C due delay m cc ca w9 HC.out hm hC0).mono ?_
        rintro e w10 ⟨rfl, hb10⟩
        rw [HOFF.out]
        replace y0 := cell_grown hb10 y0
        replace y1 := cell_grown hb10 y1
        replace y2 := cell_grown hb10 y2
        replace y3 := cell_grown hb10 y3
        replace x0 := cell_grown hb10 x0
        replace x1 := cell_grown hb10 x1
        replace x2 := cell_grown hb10 x2
        replace hS0 := hS0.grown hb10
        replace hC0 := hC0.grown hb10
        replace HB := hid (HB.out.trans (hb10.mono HB.out.size))
        have hb10' := hb10
        clear hb10
        replace hT := hT.grown hb10'
        clear hb10'
        go_wp2_with fail
        refine (fault_any L len long short n cap a w10 HL.out hn60 hS0).mono ?_
        rintro e w11 ⟨rfl, hb11⟩
        rw [HF.out]
        replace y0 := cell_grown hb11 y0
        replace y1 := cell_grown hb11 y1
        replace y2 := cell_grown hb11 y2
        replace y3 := cell_grown hb11 y3
        replace x0 := cell_grown hb11 x0
        replace x1 := cell_grown hb11 x1
        replace x2 := cell_grown hb11 x2
        replace hS0 := hS0.grown hb11
        replace hC0 := hC0.grown hb11
        replace HB := hid (HB.out.trans (hb11.mono HB.out.size))
        replace hT := hT.grown hb11
        clear hb11
        go_wp2_with fail
        refine (takesR_all L len long short n cap a w11 HL.out hn60 hS0 HOK.out).mono ?_
        rw [HTT.out, HQ.out]
        rintro e w12 ⟨rt, rx, rfl, hlq, hb12, hR⟩
        replace y0 := cell_grown hb12 y0
        replace y1 := cell_grown hb12 y1
        replace y2 := cell_grown hb12 y2
        replace y3 := cell_grown hb12 y3
        replace x0 := cell_grown hb12 x0
        replace x1 := cell_grown hb12 x1
        replace x2 := cell_grown hb12 x2
        replace hS0 := hS0.grown hb12
        replace hC0 := hC0.grown hb12
        replace HB := hid (HB.out.trans (hb12.mono HB.out.size))
        replace hT := hT.grown hb12
        clear hb12
        go_wp2_with fail
        refine (spans_any T T q q tc rx ta rt w12 HQ.out HQ.out (by unfold maxLen; omega) (by unfold maxLen; omega) hT hR).mono ?_
        rw [decide_eq_true (rfl : T = T)]
        rintro e w13 ⟨rfl, hb13⟩
        replace y0 := cell_grown hb13 y0
        replace y1 := cell_grown hb13 y1
        replace y2 := cell_grown hb13 y2
        replace y3 := cell_grown hb13 y3
        replace x0 := cell_grown hb13 x0
        replace x1 := cell_grown hb13 x1
        replace x2 := cell_grown hb13 x2
        replace hS0 := hS0.grown hb13
        replace hC0 := hC0.grown hb13
        replace HB := hid (HB.out.trans (hb13.mono HB.out.size))
        replace hR := hR.grown hb13
        clear hb13 hT
        go_wp2_with fail
        refine (in_any sec 0 (len - 1) w13).mono ?_
        rintro e w' ⟨rfl, rfl⟩
        cases hin : inB sec 0 (len - 1)
        · have HIN := hid hin
          have e1 : r1 = 0 := by rw [← HR1.out]; unfold atM; rw [HE0.out, if_pos rfl, HIN.out]; rfl
          have e2 : r2 = 2 := by rw [← HR2.out]; unfold atM; rw [HE0.out, if_pos rfl, HIN.out]; rfl
          subst e1 e2
          clear hin
          go_wp2_with fail
          refine (awake_any w13).mono ?_
          rintro e w' ⟨rfl, hb⟩
          go_wp2
          go_ret
          exact ⟨rfl, HB.out.trans (hb.mono HB.out.size)⟩
        · have HIN := hid hin
          have hrange : 0 ≤ sec ∧ sec ≤ len - 1 := by simpa [inB] using hin
          clear hin
          go_wp2_with fail
          go_loopw [15] (fun i wr => ∃ k : Nat, k ≤ q ∧ i = .int .i64 k ∧ Hid (∀ j, j < k → inB sec (T.getD j (0, 0)).1 ((T.getD j (0, 0)).2 - 1) = false) ∧ Below w13.heap.size w13 wr) (fun i _ => q - (intOf i).toNat)
          case atStart => exact ⟨0, Nat.zero_le _, rfl, fun _ h => by omega, Below.refl _ _⟩
          case round =>
            obtain ⟨k, hk, rfl, hj, hBr⟩ := hrel
            have zr := hBr.size
            by_cases hlt : k < q
            · have hkT : k < T.length := by rw [HQ.out]; exact hlt
              obtain ⟨b, off, rfl, e1, e2⟩ := hR k hkT
              have hx := hAll.out.2.1.at hkT
              have HKT := hid hkT
              clear hkT
              obtain ⟨x, hxx⟩ : ∃ x, T.getD k (0, 0) = x := ⟨_, rfl⟩
              have HXX := hid hxx
              rw [hxx] at hx e1 e2
              clear hxx
              obtain ⟨f, t⟩ := x
              simp only at hx e1 e2
              obtain ⟨hx1, hx2, hx3⟩ := hx
              have hkk : (k : Int) < q := by omega
              have f1 := cell_grown hBr e1
              have f2 := cell_grown hBr e2
              have gb := lt_of_cell f1
              cases hi2 : inB sec f (t - 1)
              · have HI := hid hi2
                clear hi2
                go_wp2_with fail
                go_big_quiet ((go_at_call 27; exact Calls.quiet_of_same ((in_any _ _ _ _).mono fun e w' h => ⟨h.1, h.2.symm⟩)))
                try rw [HI.out]
                go_wp2_with fail
                go_roundw
                case rel => exact ⟨k + 1, by omega, by go_num, upto hj.out (by rw [HXX.out]; exact HI.out), below_drewN hBr _⟩
                case measure => simp [intOf]; omega
              · have HI := hid hi2
                have hft : f ≤ sec ∧ sec ≤ t - 1 := by simpa [inB] using hi2
                clear hi2
                have hpz : pausedM L sec = false := by
                  cases hpz : pausedM L sec with
                  | false => rfl
                  | true =>
                    have h0 := hAll.out.2.2.2 sec (by omega) (by omega)
                    rw [hpz] at h0
                    have h1 := hits_pos (sec := sec) HKT.out (by rw [HXX.out]; exact HI.out)
                    simp at h0
                    omega
                have e3 : r2 = 0 := by rw [← HR2.out]; unfold atM; rw [HE0.out, if_pos rfl, if_pos HIN.out, pausedP_eq L 0 hAll.out.1, hpz]; rfl
                have e4 : r1 = (k : Int) := by
                  rw [← HR1.out]; unfold atM; rw [HE0.out, if_pos rfl, if_pos HIN.out, pausedP_eq L 0 hAll.out.1, hpz, if_neg (by simp), HTT.out]
                  rw [begun_of_hit (sec := sec) hAll.out.2.1 HKT.out (by rw [HXX.out]; exact hft.1) (by rw [HXX.out]; simp only; omega)]
                  simp only
                  omega
                subst e3 e4
                clear hpz
                go_wp2_with fail
                go_big_quiet ((go_at_call 27; exact Calls.quiet_of_same ((in_any _ _ _ _).mono fun e w' h => ⟨h.1, h.2.symm⟩)))
                rw [HI.out]
                go_wp2_with fail
                refine (awake_any _).mono ?_
                rintro e w' ⟨rfl, hb⟩
                go_wp2
                go_ret
                have hBr2 := HB.out.trans ((below_drewN hBr nq).mono HB.out.size)
                exact ⟨rfl, hBr2.trans (hb.mono hBr2.size)⟩
            · have hpz : pausedM L sec = true := by
                cases hpz : pausedM L sec with
                | true => rfl
                | false =>
                  have h0 := hAll.out.2.2.2 sec (by omega) (by omega)
                  rw [hpz, hits_zero (fun j h => hj.out j (by rw [HQ.out] at h; omega))] at h0
                  simp at h0
              have e3 : r2 = 7 := by rw [← HR2.out]; unfold atM; rw [HE0.out, if_pos rfl, if_pos HIN.out, pausedP_eq L 0 hAll.out.1, hpz]; rfl
              have e4 : r1 = 0 := by rw [← HR1.out]; unfold atM; rw [HE0.out, if_pos rfl, if_pos HIN.out, pausedP_eq L 0 hAll.out.1, hpz]; rfl
              subst e3 e4
              clear hpz
              have HB2 := hid (HB.out.trans (hBr.mono HB.out.size))
              clear hBr
              go_wp2_with fail
              refine (awake_any wr).mono ?_
              rintro e w' ⟨rfl, hb⟩
              go_wp2
              go_ret
              exact ⟨rfl, HB2.out.trans (hb.mono HB2.out.size)⟩

end Go.Proofs.Ytgapbaelifcifaa
