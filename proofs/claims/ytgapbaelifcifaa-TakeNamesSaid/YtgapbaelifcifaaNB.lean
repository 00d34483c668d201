/- The law TakeNames: its walk. -/
import Derived.Test.YtgapbaelifcifaaNA
import Derived.Sort.AtCall
namespace Go.Proofs.Ytgapbaelifcifaa
open Go.RowKit

theorem chamber_three (w : World) :
    Calls Try.prog 46 #[] w fun e w' => ∃ pa ca, e = .returned (.tuple #[.agg #[.int .i64 1000, .slice pa 1 1, .int .i64 180, .int .i64 60], .agg #[.slice ca 3 3, .int .i64 400, .int .i64 30]]) ∧ Spans w' pa [(400, 500)] ∧ Crew w' ca [(0, 1, 60), (1, 2, 0), (0, 1, 300)] ∧ Below w.heap.size w w' := by
  go_enter Try.func46, Try.ntmps46
  go_wp2_with fail
  refine bodyPost_ret (v := .tuple #[.agg #[.int .i64 1000, .slice (some ⟨w.heap.size + 1 + 1, 0, none⟩) 1 1, .int .i64 180, .int .i64 60], .agg #[.slice (some ⟨w.heap.size + 1 + 1 + 1, 0, none⟩) 3 3, .int .i64 400, .int .i64 30]]) (by simp [results, Try.f46, go_sem]) rfl ⟨_, _, rfl, ?_, ?_, ?_⟩
  · intro i hi
    match i, hi with
    | 0, _ => exact ⟨_, 0, rfl, by simp [go_sem], by simp [go_sem]⟩
  · intro i hi
    match i, hi with
    | 0, _ => exact ⟨_, 0, rfl, by simp [go_sem], by simp [go_sem], by simp [go_sem]⟩
    | 1, _ => exact ⟨_, 0, rfl, by simp [go_sem], by simp [go_sem], by simp [go_sem]⟩
    | 2, _ => exact ⟨_, 0, rfl, by simp [go_sem], by simp [go_sem], by simp [go_sem]⟩
  · exact ((((Below.refl _ w).alloc (Nat.le_refl _) _).alloc (by simp) _).alloc (by simp; omega) _).alloc (by simp; omega) _

theorem ints_lit1 (W : World) (a : Int) : Ints (W.alloc (.cells #[.int .i64 a] 3)) (some ⟨W.heap.size, 0, none⟩) [a] := by
  intro i hi
  match i, hi with
  | 0, _ => exact ⟨_, 0, rfl, by simp [go_sem]⟩

theorem ints_lit4 (W : World) (a b c d : Int) : Ints (W.alloc (.cells #[.int .i64 a, .int .i64 b, .int .i64 c, .int .i64 d] 3)) (some ⟨W.heap.size, 0, none⟩) [a, b, c, d] := by
  intro i hi
  match i, hi with
  | 0, _ => exact ⟨_, 0, rfl, by simp [go_sem]⟩
  | 1, _ => exact ⟨_, 0, rfl, by simp [go_sem]⟩
  | 2, _ => exact ⟨_, 0, rfl, by simp [go_sem]⟩
  | 3, _ => exact ⟨_, 0, rfl, by simp [go_sem]⟩

theorem ints_lit5 (W : World) (a b c d e : Int) : Ints (W.alloc (.cells #[.int .i64 a, .int .i64 b, .int .i64 c, .int .i64 d, .int .i64 e] 3)) (some ⟨W.heap.size, 0, none⟩) [a, b, c, d, e] := by
  intro i hi
  match i, hi with
  | 0, _ => exact ⟨_, 0, rfl, by simp [go_sem]⟩
  | 1, _ => exact ⟨_, 0, rfl, by simp [go_sem]⟩
  | 2, _ => exact ⟨_, 0, rfl, by simp [go_sem]⟩
  | 3, _ => exact ⟨_, 0, rfl, by simp [go_sem]⟩
  | 4, _ => exact ⟨_, 0, rfl, by simp [go_sem]⟩

theorem reals_lit (W : World) : Spans (W.alloc (.cells #[.int .i64 1, .int .i64 10, .int .i64 1, .int .i64 10, .int .i64 1, .int .i64 10, .int .i64 1, .int .i64 10, .int .i64 1, .int .i64 10] 81)) (some ⟨W.heap.size, 0, none⟩) [(1, 10), (1, 10), (1, 10), (1, 10), (1, 10)] := by
  intro i hi
  match i, hi with
  | 0, _ => exact ⟨_, 0, rfl, by simp [go_sem], by simp [go_sem]⟩
  | 1, _ => exact ⟨_, 0, rfl, by simp [go_sem], by simp [go_sem]⟩
  | 2, _ => exact ⟨_, 0, rfl, by simp [go_sem], by simp [go_sem]⟩
  | 3, _ => exact ⟨_, 0, rfl, by simp [go_sem], by simp [go_sem]⟩
  | 4, _ => exact ⟨_, 0, rfl, by simp [go_sem], by simp [go_sem]⟩

theorem crew_two {W : World} {a : Option Addr} (h : Crew W a [(0, 1, 60), (1, 2, 0), (0, 1, 300)]) : Crew W a [(0, 1, 60), (1, 2, 0)] := by
  intro i hi
  match i, hi with
  | 0, _ => exact h 0 (by decide)
  | 1, _ => exact h 1 (by decide)

theorem spans_four {W : World} {a : Option Addr} (h : Spans W a [(1, 10), (1, 10), (1, 10), (1, 10), (1, 10)]) : Spans W a [(1, 10), (1, 10), (1, 10), (1, 10)] := by
  intro i hi
  match i, hi with
  | 0, _ => exact h 0 (by decide)
  | 1, _ => exact h 1 (by decide)
  | 2, _ => exact h 2 (by decide)
  | 3, _ => exact h 3 (by decide)

set_option maxRecDepth 100000 in
set_option maxHeartbeats 40000000 in
theorem takeNames_any (w : World) : Calls Try.prog 8 #[] w fun e w' => e = .returned (.bool true) ∧ Below w.heap.size w w' := by
  go_enter Try.func8, Try.ntmps8
  go_wp2_with fail
  refine (chamber_three w).mono ?_
  rintro e w1 ⟨pa, ca, rfl, hS, hC, hb1⟩
  have z1 := hb1.size
  go_wp2_with fail
  obtain ⟨W1, hW1⟩ : ∃ W1, W1 = (w1.alloc (.cells #[.int .i64 1000, .slice pa 1 1, .int .i64 180, .int .i64 60] 34)).alloc (.cells #[.slice ca 3 3, .int .i64 400, .int .i64 30] 39) := ⟨_, rfl⟩
  have hB1 : Below w1.heap.size w1 W1 := by rw [hW1]; exact ((Below.refl _ _).alloc (Nat.le_refl _) _).alloc (by simp) _
  have c0 : W1.cell? ⟨w1.heap.size, 0, none⟩ = some (.int .i64 1000) := by rw [hW1]; simp [go_sem]
  have c1 : W1.cell? ⟨w1.heap.size, 1, none⟩ = some (.slice pa 1 1) := by rw [hW1]; simp [go_sem]
  have c2 : W1.cell? ⟨w1.heap.size, 2, none⟩ = some (.int .i64 180) := by rw [hW1]; simp [go_sem]
  have c3 : W1.cell? ⟨w1.heap.size, 3, none⟩ = some (.int .i64 60) := by rw [hW1]; simp [go_sem]
  have d0 : W1.cell? ⟨w1.heap.size + 1, 0, none⟩ = some (.slice ca 3 3) := by rw [hW1]; simp [go_sem]
  have d1 : W1.cell? ⟨w1.heap.size + 1, 1, none⟩ = some (.int .i64 400) := by rw [hW1]; simp [go_sem]
  have d2 : W1.cell? ⟨w1.heap.size + 1, 2, none⟩ = some (.int .i64 30) := by rw [hW1]; simp [go_sem]
  rw [← hW1]
  have HB := hid (hb1.trans (hB1.mono z1))
  replace hS := hS.grown hB1
  replace hC := hC.grown hB1
  have g0 := lt_of_cell c0
  have g1 := lt_of_cell d0
  clear hW1 hB1 hb1
  refine (atT_any [(400, 500)] 1000 180 60 399 1 1 pa W1 rfl (by decide) hS).mono ?_
  rw [exAt399]
  rintro e w3 ⟨rfl, hb⟩
  replace c0 := cell_grown hb c0; replace c1 := cell_grown hb c1; replace c2 := cell_grown hb c2; replace c3 := cell_grown hb c3; replace d0 := cell_grown hb d0; replace d1 := cell_grown hb d1; replace d2 := cell_grown hb d2; replace hS := hS.grown hb; replace hC := hC.grown hb
  replace HB := hid (HB.out.trans (hb.mono HB.out.size))
  replace g0 := lt_of_cell c0; replace g1 := lt_of_cell d0
  clear hb
  go_wp2_with fail
  refine (atT_any [(400, 500)] 1000 180 60 400 1 1 pa w3 rfl (by decide) hS).mono ?_
  rw [exAt400]
  rintro e w4 ⟨rfl, hb⟩
  replace c0 := cell_grown hb c0; replace c1 := cell_grown hb c1; replace c2 := cell_grown hb c2; replace c3 := cell_grown hb c3; replace d0 := cell_grown hb d0; replace d1 := cell_grown hb d1; replace d2 := cell_grown hb d2; replace hS := hS.grown hb; replace hC := hC.grown hb
  replace HB := hid (HB.out.trans (hb.mono HB.out.size))
  replace g0 := lt_of_cell c0; replace g1 := lt_of_cell d0
  clear hb
  go_wp2_with fail
  refine (atT_any [(400, 500)] 1000 180 60 500 1 1 pa w4 rfl (by decide) hS).mono ?_
  rw [exAt500]
  rintro e w5 ⟨rfl, hb⟩
  replace c0 := cell_grown hb c0; replace c1 := cell_grown hb c1; replace c2 := cell_grown hb c2; replace c3 := cell_grown hb c3; replace d0 := cell_grown hb d0; replace d1 := cell_grown hb d1; replace d2 := cell_grown hb d2; replace hS := hS.grown hb; replace hC := hC.grown hb
  replace HB := hid (HB.out.trans (hb.mono HB.out.size))
  replace g0 := lt_of_cell c0; replace g1 := lt_of_cell d0
  clear hb
  go_wp2_with fail
  obtain ⟨VR, hVR⟩ : ∃ V, V = w5.alloc (.cells #[.int .i64 1, .int .i64 10, .int .i64 1, .int .i64 10, .int .i64 1, .int .i64 10, .int .i64 1, .int .i64 10, .int .i64 1, .int .i64 10] 81) := ⟨_, rfl⟩
  have hb : Below w5.heap.size w5 VR := by rw [hVR]; exact (Below.refl _ _).alloc (Nat.le_refl _) _
  have hX : Spans VR (some ⟨w5.heap.size, 0, none⟩) [(1, 10), (1, 10), (1, 10), (1, 10), (1, 10)] := by rw [hVR]; exact reals_lit _
  have hzR : VR.heap.size = w5.heap.size + 1 := by rw [hVR]; simp
  rw [← hVR]
  replace c0 := cell_grown hb c0; replace c1 := cell_grown hb c1; replace c2 := cell_grown hb c2; replace c3 := cell_grown hb c3; replace d0 := cell_grown hb d0; replace d1 := cell_grown hb d1; replace d2 := cell_grown hb d2; replace hS := hS.grown hb; replace hC := hC.grown hb
  replace HB := hid (HB.out.trans (hb.mono HB.out.size))
  replace g0 := lt_of_cell c0; replace g1 := lt_of_cell d0
  clear hb hVR
  go_wp2_with fail
  obtain ⟨V59, hV59⟩ : ∃ V, V = VR.alloc (.cells #[.int .i64 1, .int .i64 0, .int .i64 2, .int .i64 1, .int .i64 0] 3) := ⟨_, rfl⟩
  have hb : Below VR.heap.size VR V59 := by rw [hV59]; exact (Below.refl _ _).alloc (Nat.le_refl _) _
  have hI : Ints V59 (some ⟨w5.heap.size + 1, 0, none⟩) [1, 0, 2, 1, 0] := by rw [hV59, ← hzR]; exact ints_lit5 _ 1 0 2 1 0
  rw [← hV59]
  replace c0 := cell_grown hb c0; replace c1 := cell_grown hb c1; replace c2 := cell_grown hb c2; replace c3 := cell_grown hb c3; replace d0 := cell_grown hb d0; replace d1 := cell_grown hb d1; replace d2 := cell_grown hb d2; replace hS := hS.grown hb; replace hC := hC.grown hb; replace hX := hX.grown hb
  replace HB := hid (HB.out.trans (hb.mono HB.out.size))
  replace g0 := lt_of_cell c0; replace g1 := lt_of_cell d0
  clear hb hV59
  refine (doneT_any [(400, 500)] 1000 180 60 400 30 [(0, 1, 60), (1, 2, 0), (0, 1, 300)] [1, 0, 2, 1, 0] [(1, 10), (1, 10), (1, 10), (1, 10), (1, 10)] 1 1 3 3 5 5 5 5 pa ca (some ⟨w5.heap.size + 1, 0, none⟩) (some ⟨w5.heap.size, 0, none⟩) V59 rfl (by decide) hS rfl (by decide) hC rfl (by decide) hI rfl (by decide) hX).mono ?_
  intro e w6 hpost
  obtain ⟨daw6, dn, dcw6, rfl, hb, HV⟩ := done_one hpost
  rw [exDone0] at HV ⊢
  obtain ⟨hdn, hD⟩ := HV.out.2 rfl
  rw [exTakes, exEnds] at hD
  have hdn5 : dn = 5 := hdn
  subst hdn5
  clear HV hdn
  replace c0 := cell_grown hb c0; replace c1 := cell_grown hb c1; replace c2 := cell_grown hb c2; replace c3 := cell_grown hb c3; replace d0 := cell_grown hb d0; replace d1 := cell_grown hb d1; replace d2 := cell_grown hb d2; replace hS := hS.grown hb; replace hC := hC.grown hb; replace hX := hX.grown hb
  replace HB := hid (HB.out.trans (hb.mono HB.out.size))
  replace g0 := lt_of_cell c0; replace g1 := lt_of_cell d0
  clear hb hpost hI
  go_wp2_with fail
  obtain ⟨V81, hV81⟩ : ∃ V, V = w6.alloc (.cells #[.int .i64 1, .int .i64 0, .int .i64 2, .int .i64 1, .int .i64 0] 3) := ⟨_, rfl⟩
  have hb : Below w6.heap.size w6 V81 := by rw [hV81]; exact (Below.refl _ _).alloc (Nat.le_refl _) _
  have hI : Ints V81 (some ⟨w6.heap.size, 0, none⟩) [1, 0, 2, 1, 0] := by rw [hV81]; exact ints_lit5 _ 1 0 2 1 0
  rw [← hV81]
  replace c0 := cell_grown hb c0; replace c1 := cell_grown hb c1; replace c2 := cell_grown hb c2; replace c3 := cell_grown hb c3; replace d0 := cell_grown hb d0; replace d1 := cell_grown hb d1; replace d2 := cell_grown hb d2; replace hS := hS.grown hb; replace hC := hC.grown hb; replace hX := hX.grown hb; replace hD := hD.grown hb
  replace HB := hid (HB.out.trans (hb.mono HB.out.size))
  replace g0 := lt_of_cell c0; replace g1 := lt_of_cell d0
  clear hb hV81
  refine (relieve_any [(400, 500)] 1000 180 60 400 30 [(0, 1, 60), (1, 2, 0), (0, 1, 300)] [1, 0, 2, 1, 0] 2 600 1 1 3 3 5 5 pa ca (some ⟨w6.heap.size, 0, none⟩) V81 rfl (by decide) hS rfl (by decide) hC rfl (by decide) hI).mono ?_
  intro e w7 hpost
  obtain ⟨aa, oa, ac, oc, rfl, hAI, hOI, hb⟩ := exRelief2 hpost
  replace c0 := cell_grown hb c0; replace c1 := cell_grown hb c1; replace c2 := cell_grown hb c2; replace c3 := cell_grown hb c3; replace d0 := cell_grown hb d0; replace d1 := cell_grown hb d1; replace d2 := cell_grown hb d2; replace hS := hS.grown hb; replace hC := hC.grown hb; replace hX := hX.grown hb; replace hD := hD.grown hb
  replace HB := hid (HB.out.trans (hb.mono HB.out.size))
  replace g0 := lt_of_cell c0; replace g1 := lt_of_cell d0
  clear hb hpost hI
  go_wp2_with fail
  obtain ⟨V97, hV97⟩ : ∃ V, V = w7.alloc (.cells #[.int .i64 1, .int .i64 0, .int .i64 2, .int .i64 1, .int .i64 0] 3) := ⟨_, rfl⟩
  have hb : Below w7.heap.size w7 V97 := by rw [hV97]; exact (Below.refl _ _).alloc (Nat.le_refl _) _
  have hI : Ints V97 (some ⟨w7.heap.size, 0, none⟩) [1, 0, 2, 1, 0] := by rw [hV97]; exact ints_lit5 _ 1 0 2 1 0
  rw [← hV97]
  replace c0 := cell_grown hb c0; replace c1 := cell_grown hb c1; replace c2 := cell_grown hb c2; replace c3 := cell_grown hb c3; replace d0 := cell_grown hb d0; replace d1 := cell_grown hb d1; replace d2 := cell_grown hb d2; replace hS := hS.grown hb; replace hC := hC.grown hb; replace hX := hX.grown hb; replace hD := hD.grown hb; replace hAI := hAI.grown hb; replace hOI := hOI.grown hb
  replace HB := hid (HB.out.trans (hb.mono HB.out.size))
  replace g0 := lt_of_cell c0; replace g1 := lt_of_cell d0
  clear hb hV97
  refine (relieve_any [(400, 500)] 1000 180 60 400 30 [(0, 1, 60), (1, 2, 0), (0, 1, 300)] [1, 0, 2, 1, 0] 1 600 1 1 3 3 5 5 pa ca (some ⟨w7.heap.size, 0, none⟩) V97 rfl (by decide) hS rfl (by decide) hC rfl (by decide) hI).mono ?_
  intro e w8 hpost
  obtain ⟨rfl, hb⟩ := exRelief1 hpost
  replace c0 := cell_grown hb c0; replace c1 := cell_grown hb c1; replace c2 := cell_grown hb c2; replace c3 := cell_grown hb c3; replace d0 := cell_grown hb d0; replace d1 := cell_grown hb d1; replace d2 := cell_grown hb d2; replace hS := hS.grown hb; replace hC := hC.grown hb; replace hX := hX.grown hb; replace hD := hD.grown hb; replace hAI := hAI.grown hb; replace hOI := hOI.grown hb
  replace HB := hid (HB.out.trans (hb.mono HB.out.size))
  replace g0 := lt_of_cell c0; replace g1 := lt_of_cell d0
  clear hb hpost hI
  go_wp2_with fail
  obtain ⟨V113, hV113⟩ : ∃ V, V = w8.alloc (.cells #[.int .i64 370, .int .i64 630, .int .i64 870, .int .i64 1050, .int .i64 1150] 3) := ⟨_, rfl⟩
  have hb : Below w8.heap.size w8 V113 := by rw [hV113]; exact (Below.refl _ _).alloc (Nat.le_refl _) _
  have hI : Ints V113 (some ⟨w8.heap.size, 0, none⟩) [370, 630, 870, 1050, 1150] := by rw [hV113]; exact ints_lit5 _ 370 630 870 1050 1150
  rw [← hV113]
  replace c0 := cell_grown hb c0; replace c1 := cell_grown hb c1; replace c2 := cell_grown hb c2; replace c3 := cell_grown hb c3; replace d0 := cell_grown hb d0; replace d1 := cell_grown hb d1; replace d2 := cell_grown hb d2; replace hS := hS.grown hb; replace hC := hC.grown hb; replace hX := hX.grown hb; replace hD := hD.grown hb; replace hAI := hAI.grown hb; replace hOI := hOI.grown hb
  replace HB := hid (HB.out.trans (hb.mono HB.out.size))
  replace g0 := lt_of_cell c0; replace g1 := lt_of_cell d0
  clear hb hV113
  refine (ints_any [370, 630, 870, 1050, 1150] [370, 630, 870, 1050, 1150] 5 5 dcw6 5 daw6 (some ⟨w8.heap.size, 0, none⟩) V113 rfl rfl (by decide) (by decide) hD hI).mono ?_
  rw [decide_eq_true rfl]
  rintro e w9 ⟨rfl, hb⟩
  replace c0 := cell_grown hb c0; replace c1 := cell_grown hb c1; replace c2 := cell_grown hb c2; replace c3 := cell_grown hb c3; replace d0 := cell_grown hb d0; replace d1 := cell_grown hb d1; replace d2 := cell_grown hb d2; replace hS := hS.grown hb; replace hC := hC.grown hb; replace hX := hX.grown hb; replace hD := hD.grown hb; replace hAI := hAI.grown hb; replace hOI := hOI.grown hb
  replace HB := hid (HB.out.trans (hb.mono HB.out.size))
  replace g0 := lt_of_cell c0; replace g1 := lt_of_cell d0
  clear hb hI
  go_wp2_with fail
  obtain ⟨V129, hV129⟩ : ∃ V, V = w9.alloc (.cells #[.int .i64 1, .int .i64 0, .int .i64 2, .int .i64 1, .int .i64 0] 3) := ⟨_, rfl⟩
  have hb : Below w9.heap.size w9 V129 := by rw [hV129]; exact (Below.refl _ _).alloc (Nat.le_refl _) _
  have hI : Ints V129 (some ⟨w9.heap.size, 0, none⟩) [1, 0, 2, 1, 0] := by rw [hV129]; exact ints_lit5 _ 1 0 2 1 0
  rw [← hV129]
  replace c0 := cell_grown hb c0; replace c1 := cell_grown hb c1; replace c2 := cell_grown hb c2; replace c3 := cell_grown hb c3; replace d0 := cell_grown hb d0; replace d1 := cell_grown hb d1; replace d2 := cell_grown hb d2; replace hS := hS.grown hb; replace hC := hC.grown hb; replace hX := hX.grown hb; replace hD := hD.grown hb; replace hAI := hAI.grown hb; replace hOI := hOI.grown hb
  replace HB := hid (HB.out.trans (hb.mono HB.out.size))
  replace g0 := lt_of_cell c0; replace g1 := lt_of_cell d0
  clear hb hV129
  refine (ints_any [1, 0, 2, 1, 0] [1, 0, 2, 1, 0] 5 5 ac 5 aa (some ⟨w9.heap.size, 0, none⟩) V129 rfl rfl (by decide) (by decide) hAI hI).mono ?_
  rw [decide_eq_true rfl]
  rintro e w10 ⟨rfl, hb⟩
  replace c0 := cell_grown hb c0; replace c1 := cell_grown hb c1; replace c2 := cell_grown hb c2; replace c3 := cell_grown hb c3; replace d0 := cell_grown hb d0; replace d1 := cell_grown hb d1; replace d2 := cell_grown hb d2; replace hS := hS.grown hb; replace hC := hC.grown hb; replace hX := hX.grown hb; replace hD := hD.grown hb; replace hAI := hAI.grown hb; replace hOI := hOI.grown hb
  replace HB := hid (HB.out.trans (hb.mono HB.out.size))
  replace g0 := lt_of_cell c0; replace g1 := lt_of_cell d0
  clear hb hI
  go_wp2_with fail
  obtain ⟨V145, hV145⟩ : ∃ V, V = w10.alloc (.cells #[.int .i64 2] 3) := ⟨_, rfl⟩
  have hb : Below w10.heap.size w10 V145 := by rw [hV145]; exact (Below.refl _ _).alloc (Nat.le_refl _) _
  have hI : Ints V145 (some ⟨w10.heap.size, 0, none⟩) [2] := by rw [hV145]; exact ints_lit1 _ 2
  rw [← hV145]
  replace c0 := cell_grown hb c0; replace c1 := cell_grown hb c1; replace c2 := cell_grown hb c2; replace c3 := cell_grown hb c3; replace d0 := cell_grown hb d0; replace d1 := cell_grown hb d1; replace d2 := cell_grown hb d2; replace hS := hS.grown hb; replace hC := hC.grown hb; replace hX := hX.grown hb; replace hD := hD.grown hb; replace hAI := hAI.grown hb; replace hOI := hOI.grown hb
  replace HB := hid (HB.out.trans (hb.mono HB.out.size))
  replace g0 := lt_of_cell c0; replace g1 := lt_of_cell d0
  clear hb hV145
  refine (ints_any [2] [2] 1 1 oc 1 oa (some ⟨w10.heap.size, 0, none⟩) V145 rfl rfl (by decide) (by decide) hOI hI).mono ?_
  rw [decide_eq_true rfl]
  rintro e w11 ⟨rfl, hb⟩
  replace c0 := cell_grown hb c0; replace c1 := cell_grown hb c1; replace c2 := cell_grown hb c2; replace c3 := cell_grown hb c3; replace d0 := cell_grown hb d0; replace d1 := cell_grown hb d1; replace d2 := cell_grown hb d2; replace hS := hS.grown hb; replace hC := hC.grown hb; replace hX := hX.grown hb; replace hD := hD.grown hb; replace hAI := hAI.grown hb; replace hOI := hOI.grown hb
  replace HB := hid (HB.out.trans (hb.mono HB.out.size))
  replace g0 := lt_of_cell c0; replace g1 := lt_of_cell d0
  clear hb hI
  go_wp2_with fail
  clear hD hAI hOI
  refine (fails_any [(400, 500)] 1000 180 60 400 30 [(0, 1, 60), (1, 2, 0), (0, 1, 300)] 1 1 3 3 pa ca w11 rfl (by decide) hS rfl (by decide) hC).mono ?_
  intro e w12 hpost
  obtain ⟨rfl, hb⟩ := exFails hpost
  replace c0 := cell_grown hb c0; replace c1 := cell_grown hb c1; replace c2 := cell_grown hb c2; replace c3 := cell_grown hb c3; replace d0 := cell_grown hb d0; replace d1 := cell_grown hb d1; replace d2 := cell_grown hb d2; replace hS := hS.grown hb; replace hC := hC.grown hb; replace hX := hX.grown hb
  replace HB := hid (HB.out.trans (hb.mono HB.out.size))
  replace g0 := lt_of_cell c0; replace g1 := lt_of_cell d0
  clear hb hpost
  go_wp2_with fail
  obtain ⟨VT, hVT⟩ : ∃ V, V = w12.alloc (.cells #[.slice ca 2 3, .int .i64 400, .int .i64 30] 39) := ⟨_, rfl⟩
  have hb : Below w12.heap.size w12 VT := by rw [hVT]; exact (Below.refl _ _).alloc (Nat.le_refl _) _
  have e0 : VT.cell? ⟨w12.heap.size, 0, none⟩ = some (.slice ca 2 3) := by rw [hVT]; simp [go_sem]
  have e1 : VT.cell? ⟨w12.heap.size, 1, none⟩ = some (.int .i64 400) := by rw [hVT]; simp [go_sem]
  have e2 : VT.cell? ⟨w12.heap.size, 2, none⟩ = some (.int .i64 30) := by rw [hVT]; simp [go_sem]
  rw [← hVT]
  replace c0 := cell_grown hb c0; replace c1 := cell_grown hb c1; replace c2 := cell_grown hb c2; replace c3 := cell_grown hb c3; replace d0 := cell_grown hb d0; replace d1 := cell_grown hb d1; replace d2 := cell_grown hb d2; replace hS := hS.grown hb; replace hC := hC.grown hb; replace hX := hX.grown hb
  replace HB := hid (HB.out.trans (hb.mono HB.out.size))
  replace g0 := lt_of_cell c0; replace g1 := lt_of_cell d0
  have g2 := lt_of_cell e0
  clear hb hVT
  have hT : Crew VT ca [(0, 1, 60), (1, 2, 0)] := crew_two hC
  refine (fails_any [(400, 500)] 1000 180 60 400 30 [(0, 1, 60), (1, 2, 0)] 1 1 2 3 pa ca VT rfl (by decide) hS rfl (by decide) hT).mono ?_
  intro e w13 hpost
  obtain ⟨rfl, hb⟩ := exFails1 hpost
  replace c0 := cell_grown hb c0; replace c1 := cell_grown hb c1; replace c2 := cell_grown hb c2; replace c3 := cell_grown hb c3; replace d0 := cell_grown hb d0; replace d1 := cell_grown hb d1; replace d2 := cell_grown hb d2; replace e0 := cell_grown hb e0; replace e1 := cell_grown hb e1; replace e2 := cell_grown hb e2; replace hS := hS.grown hb; replace hC := hC.grown hb; replace hX := hX.grown hb; replace hT := hT.grown hb
  replace HB := hid (HB.out.trans (hb.mono HB.out.size))
  replace g0 := lt_of_cell c0; replace g1 := lt_of_cell d0; replace g2 := lt_of_cell e0
  clear hb hpost
  go_wp2_with fail
  refine (rota_any [(400, 500)] 1000 180 60 400 30 [(0, 1, 60), (1, 2, 0)] 1 1 2 3 pa ca w13 rfl (by decide) hS rfl (by decide) hT).mono ?_
  intro e w14 hpost
  obtain ⟨rfl, hb⟩ := exRota1 hpost
  replace c0 := cell_grown hb c0; replace c1 := cell_grown hb c1; replace c2 := cell_grown hb c2; replace c3 := cell_grown hb c3; replace d0 := cell_grown hb d0; replace d1 := cell_grown hb d1; replace d2 := cell_grown hb d2; replace e0 := cell_grown hb e0; replace e1 := cell_grown hb e1; replace e2 := cell_grown hb e2; replace hS := hS.grown hb; replace hC := hC.grown hb; replace hX := hX.grown hb; replace hT := hT.grown hb
  replace HB := hid (HB.out.trans (hb.mono HB.out.size))
  replace g0 := lt_of_cell c0; replace g1 := lt_of_cell d0; replace g2 := lt_of_cell e0
  clear hb hpost
  go_wp2_with fail
  refine (atT_any [(400, 500)] 1000 180 60 1000 1 1 pa w14 rfl (by decide) hS).mono ?_
  rw [exAt1000]
  rintro e w15 ⟨rfl, hb⟩
  replace c0 := cell_grown hb c0; replace c1 := cell_grown hb c1; replace c2 := cell_grown hb c2; replace c3 := cell_grown hb c3; replace d0 := cell_grown hb d0; replace d1 := cell_grown hb d1; replace d2 := cell_grown hb d2; replace e0 := cell_grown hb e0; replace e1 := cell_grown hb e1; replace e2 := cell_grown hb e2; replace hS := hS.grown hb; replace hC := hC.grown hb; replace hX := hX.grown hb; replace hT := hT.grown hb
  replace HB := hid (HB.out.trans (hb.mono HB.out.size))
  replace g0 := lt_of_cell c0; replace g1 := lt_of_cell d0; replace g2 := lt_of_cell e0
  clear hb
  go_wp2_with fail
  obtain ⟨V205, hV205⟩ : ∃ V, V = w15.alloc (.cells #[.int .i64 1, .int .i64 0, .int .i64 2, .int .i64 1] 3) := ⟨_, rfl⟩
  have hb : Below w15.heap.size w15 V205 := by rw [hV205]; exact (Below.refl _ _).alloc (Nat.le_refl _) _
  have hI : Ints V205 (some ⟨w15.heap.size, 0, none⟩) [1, 0, 2, 1] := by rw [hV205]; exact ints_lit4 _ 1 0 2 1
  rw [← hV205]
  replace c0 := cell_grown hb c0; replace c1 := cell_grown hb c1; replace c2 := cell_grown hb c2; replace c3 := cell_grown hb c3; replace d0 := cell_grown hb d0; replace d1 := cell_grown hb d1; replace d2 := cell_grown hb d2; replace e0 := cell_grown hb e0; replace e1 := cell_grown hb e1; replace e2 := cell_grown hb e2; replace hS := hS.grown hb; replace hC := hC.grown hb; replace hX := hX.grown hb; replace hT := hT.grown hb
  replace HB := hid (HB.out.trans (hb.mono HB.out.size))
  replace g0 := lt_of_cell c0; replace g1 := lt_of_cell d0; replace g2 := lt_of_cell e0
  clear hb hV205
  refine (doneT_any [(400, 500)] 1000 180 60 400 30 [(0, 1, 60), (1, 2, 0), (0, 1, 300)] [1, 0, 2, 1] [(1, 10), (1, 10), (1, 10), (1, 10), (1, 10)] 1 1 3 3 4 4 5 5 pa ca (some ⟨w15.heap.size, 0, none⟩) (some ⟨w5.heap.size, 0, none⟩) V205 rfl (by decide) hS rfl (by decide) hC rfl (by decide) hI rfl (by decide) hX).mono ?_
  intro e w16 hpost
  obtain ⟨daw16, dn, dcw16, rfl, hb, HV⟩ := done_one hpost
  rw [exDone1] at HV ⊢
  replace c0 := cell_grown hb c0; replace c1 := cell_grown hb c1; replace c2 := cell_grown hb c2; replace c3 := cell_grown hb c3; replace d0 := cell_grown hb d0; replace d1 := cell_grown hb d1; replace d2 := cell_grown hb d2; replace e0 := cell_grown hb e0; replace e1 := cell_grown hb e1; replace e2 := cell_grown hb e2; replace hS := hS.grown hb; replace hC := hC.grown hb; replace hX := hX.grown hb; replace hT := hT.grown hb
  replace HB := hid (HB.out.trans (hb.mono HB.out.size))
  replace g0 := lt_of_cell c0; replace g1 := lt_of_cell d0; replace g2 := lt_of_cell e0
  clear hb hpost hI
  go_wp2_with fail
  have hbY : Below w16.heap.size w16 (w16.drew.alloc (.cells #[.int .i64 1, .int .i64 0, .int .i64 2, .int .i64 1, .int .i64 0] 3)) := ((Below.refl _ _).drew).alloc (Nat.le_refl _) _
  have hIY : Ints (w16.drew.alloc (.cells #[.int .i64 1, .int .i64 0, .int .i64 2, .int .i64 1, .int .i64 0] 3)) (some ⟨w16.heap.size, 0, none⟩) [1, 0, 2, 1, 0] := ints_lit5 w16.drew 1 0 2 1 0
  go_region_held3 (fun w' : World => w'.cell? ⟨w1.heap.size, 0, none⟩ = some (.int .i64 1000) ∧ w'.cell? ⟨w1.heap.size, 1, none⟩ = some (.slice pa 1 1) ∧ w'.cell? ⟨w1.heap.size, 2, none⟩ = some (.int .i64 180) ∧ w'.cell? ⟨w1.heap.size, 3, none⟩ = some (.int .i64 60) ∧ w'.cell? ⟨w1.heap.size + 1, 0, none⟩ = some (.slice ca 3 3) ∧ w'.cell? ⟨w1.heap.size + 1, 1, none⟩ = some (.int .i64 400) ∧ w'.cell? ⟨w1.heap.size + 1, 2, none⟩ = some (.int .i64 30)) (first | exact ⟨c0, c1, c2, c3, d0, d1, d2⟩ | exact ⟨cell_grown (Below.alloc (Below.refl _ _) (Nat.le_refl _) _) c0, cell_grown (Below.alloc (Below.refl _ _) (Nat.le_refl _) _) c1, cell_grown (Below.alloc (Below.refl _ _) (Nat.le_refl _) _) c2, cell_grown (Below.alloc (Below.refl _ _) (Nat.le_refl _) _) c3, cell_grown (Below.alloc (Below.refl _ _) (Nat.le_refl _) _) d0, cell_grown (Below.alloc (Below.refl _ _) (Nat.le_refl _) _) d1, cell_grown (Below.alloc (Below.refl _ _) (Nat.le_refl _) _) d2⟩) (first | (go_at_call 39; refine (doneT_any [(400, 500)] 1000 180 60 400 30 [(0, 1, 60), (1, 2, 0), (0, 1, 300)] [1, 0, 2, 1, 0] [(1, 10), (1, 10), (1, 10), (1, 10)] 1 1 3 3 5 5 4 5 pa ca (some ⟨w16.heap.size, 0, none⟩) (some ⟨w5.heap.size, 0, none⟩) _ rfl (by decide) (hS.grown hbY) rfl (by decide) (hC.grown hbY) rfl (by decide) hIY rfl (by decide) (spans_four (hX.grown hbY))).mono ?_; intro e w17 hpost; obtain ⟨daw17, dnw17, dcw17, rfl, hb, HV⟩ := done_one hpost; rw [exDone2] at HV ⊢; have hbz := hbY.trans (hb.mono hbY.size); replace c0 := cell_grown hbz c0; replace c1 := cell_grown hbz c1; replace c2 := cell_grown hbz c2; replace c3 := cell_grown hbz c3; replace d0 := cell_grown hbz d0; replace d1 := cell_grown hbz d1; replace d2 := cell_grown hbz d2; replace e0 := cell_grown hbz e0; replace e1 := cell_grown hbz e1; replace e2 := cell_grown hbz e2; replace hS := hS.grown hbz; replace hC := hC.grown hbz; replace hX := hX.grown hbz; replace hT := hT.grown hbz; replace HB := hid (HB.out.trans (hbz.mono HB.out.size))))
  replace g0 := lt_of_cell c0; replace g1 := lt_of_cell d0; replace g2 := lt_of_cell e0
  clear hb hbz hbY hIY hpost HV
  go_wp2_with fail
  obtain ⟨V228, hV228⟩ : ∃ V, V = w17.alloc (.cells #[.int .i64 0, .int .i64 0, .int .i64 2, .int .i64 1, .int .i64 0] 3) := ⟨_, rfl⟩
  have hb : Below w17.heap.size w17 V228 := by rw [hV228]; exact (Below.refl _ _).alloc (Nat.le_refl _) _
  have hI : Ints V228 (some ⟨w17.heap.size, 0, none⟩) [0, 0, 2, 1, 0] := by rw [hV228]; exact ints_lit5 _ 0 0 2 1 0
  rw [← hV228]
  replace c0 := cell_grown hb c0; replace c1 := cell_grown hb c1; replace c2 := cell_grown hb c2; replace c3 := cell_grown hb c3; replace d0 := cell_grown hb d0; replace d1 := cell_grown hb d1; replace d2 := cell_grown hb d2; replace e0 := cell_grown hb e0; replace e1 := cell_grown hb e1; replace e2 := cell_grown hb e2; replace hS := hS.grown hb; replace hC := hC.grown hb; replace hX := hX.grown hb; replace hT := hT.grown hb
  replace HB := hid (HB.out.trans (hb.mono HB.out.size))
  replace g0 := lt_of_cell c0; replace g1 := lt_of_cell d0; replace g2 := lt_of_cell e0
  clear hb hV228
  refine (relieve_any [(400, 500)] 1000 180 60 400 30 [(0, 1, 60), (1, 2, 0), (0, 1, 300)] [0, 0, 2, 1, 0] 1 600 1 1 3 3 5 5 pa ca (some ⟨w17.heap.size, 0, none⟩) V228 rfl (by decide) hS rfl (by decide) hC rfl (by decide) hI).mono ?_
  intro e w18 hpost
  obtain ⟨rfl, hb⟩ := exReliefErr hpost exErr2 (by decide)
  replace c0 := cell_grown hb c0; replace c1 := cell_grown hb c1; replace c2 := cell_grown hb c2; replace c3 := cell_grown hb c3; replace d0 := cell_grown hb d0; replace d1 := cell_grown hb d1; replace d2 := cell_grown hb d2; replace e0 := cell_grown hb e0; replace e1 := cell_grown hb e1; replace e2 := cell_grown hb e2; replace hS := hS.grown hb; replace hC := hC.grown hb; replace hX := hX.grown hb; replace hT := hT.grown hb
  replace HB := hid (HB.out.trans (hb.mono HB.out.size))
  replace g0 := lt_of_cell c0; replace g1 := lt_of_cell d0; replace g2 := lt_of_cell e0
  clear hb hpost hI
  go_wp2_with fail
  obtain ⟨V244, hV244⟩ : ∃ V, V = w18.alloc (.cells #[.int .i64 1, .int .i64 0, .int .i64 2, .int .i64 1, .int .i64 0] 3) := ⟨_, rfl⟩
  have hb : Below w18.heap.size w18 V244 := by rw [hV244]; exact (Below.refl _ _).alloc (Nat.le_refl _) _
  have hI : Ints V244 (some ⟨w18.heap.size, 0, none⟩) [1, 0, 2, 1, 0] := by rw [hV244]; exact ints_lit5 _ 1 0 2 1 0
  rw [← hV244]
  replace c0 := cell_grown hb c0; replace c1 := cell_grown hb c1; replace c2 := cell_grown hb c2; replace c3 := cell_grown hb c3; replace d0 := cell_grown hb d0; replace d1 := cell_grown hb d1; replace d2 := cell_grown hb d2; replace e0 := cell_grown hb e0; replace e1 := cell_grown hb e1; replace e2 := cell_grown hb e2; replace hS := hS.grown hb; replace hC := hC.grown hb; replace hX := hX.grown hb; replace hT := hT.grown hb
  replace HB := hid (HB.out.trans (hb.mono HB.out.size))
  replace g0 := lt_of_cell c0; replace g1 := lt_of_cell d0; replace g2 := lt_of_cell e0
  clear hb hV244
  refine (relieve_any [(400, 500)] 1000 180 60 400 30 [(0, 1, 60), (1, 2, 0), (0, 1, 300)] [1, 0, 2, 1, 0] 3 600 1 1 3 3 5 5 pa ca (some ⟨w18.heap.size, 0, none⟩) V244 rfl (by decide) hS rfl (by decide) hC rfl (by decide) hI).mono ?_
  intro e w19 hpost
  obtain ⟨rfl, hb⟩ := exReliefErr hpost exErr3 (by decide)
  replace c0 := cell_grown hb c0; replace c1 := cell_grown hb c1; replace c2 := cell_grown hb c2; replace c3 := cell_grown hb c3; replace d0 := cell_grown hb d0; replace d1 := cell_grown hb d1; replace d2 := cell_grown hb d2; replace e0 := cell_grown hb e0; replace e1 := cell_grown hb e1; replace e2 := cell_grown hb e2; replace hS := hS.grown hb; replace hC := hC.grown hb; replace hX := hX.grown hb; replace hT := hT.grown hb
  replace HB := hid (HB.out.trans (hb.mono HB.out.size))
  replace g0 := lt_of_cell c0; replace g1 := lt_of_cell d0; replace g2 := lt_of_cell e0
  clear hb hpost hI
  go_wp2_with fail
  obtain ⟨VN, hVN⟩ : ∃ V, V = ((w19.alloc (.cells #[.int .i64 1000, .slice pa 1 1, .int .i64 20, .int .i64 20] 34)).alloc (.cells #[.int .i64 1000, .slice (some ⟨w19.heap.size + 1 + 1, 0, none⟩) 1 1, .int .i64 180, .int .i64 60] 34)).alloc (.cells #[.int .i64 0, .int .i64 1000] 82) := ⟨_, rfl⟩
  have hb : Below w19.heap.size w19 VN := by rw [hVN]; exact (((Below.refl _ _).alloc (Nat.le_refl _) _).alloc (by simp) _).alloc (by simp; omega) _
  have l0 : VN.cell? ⟨w19.heap.size, 0, none⟩ = some (.int .i64 1000) := by rw [hVN]; simp [go_sem]
  have l1 : VN.cell? ⟨w19.heap.size, 1, none⟩ = some (.slice pa 1 1) := by rw [hVN]; simp [go_sem]
  have l2 : VN.cell? ⟨w19.heap.size, 2, none⟩ = some (.int .i64 20) := by rw [hVN]; simp [go_sem]
  have l3 : VN.cell? ⟨w19.heap.size, 3, none⟩ = some (.int .i64 20) := by rw [hVN]; simp [go_sem]
  have n0 : VN.cell? ⟨w19.heap.size + 1, 0, none⟩ = some (.int .i64 1000) := by rw [hVN]; simp [go_sem]
  have n1 : VN.cell? ⟨w19.heap.size + 1, 1, none⟩ = some (.slice (some ⟨w19.heap.size + 1 + 1, 0, none⟩) 1 1) := by rw [hVN]; simp [go_sem]
  have n2 : VN.cell? ⟨w19.heap.size + 1, 2, none⟩ = some (.int .i64 180) := by rw [hVN]; simp [go_sem]
  have n3 : VN.cell? ⟨w19.heap.size + 1, 3, none⟩ = some (.int .i64 60) := by rw [hVN]; simp [go_sem]
  have hN : Spans VN (some ⟨w19.heap.size + 1 + 1, 0, none⟩) [(0, 1000)] := by
    intro i hi
    match i, hi with
    | 0, _ => exact ⟨_, 0, rfl, by rw [hVN]; simp [go_sem], by rw [hVN]; simp [go_sem]⟩
  rw [← hVN]
  replace c0 := cell_grown hb c0; replace c1 := cell_grown hb c1; replace c2 := cell_grown hb c2; replace c3 := cell_grown hb c3; replace d0 := cell_grown hb d0; replace d1 := cell_grown hb d1; replace d2 := cell_grown hb d2; replace e0 := cell_grown hb e0; replace e1 := cell_grown hb e1; replace e2 := cell_grown hb e2; replace hS := hS.grown hb; replace hC := hC.grown hb; replace hX := hX.grown hb; replace hT := hT.grown hb
  replace HB := hid (HB.out.trans (hb.mono HB.out.size))
  replace g0 := lt_of_cell c0; replace g1 := lt_of_cell d0; replace g2 := lt_of_cell e0
  have g3 := lt_of_cell l0
  have g4 := lt_of_cell n0
  clear hb hVN
  refine (takes_any [(0, 1000)] 1000 180 60 1 1 (some ⟨w19.heap.size + 1 + 1, 0, none⟩) VN rfl (by decide) hN).mono ?_
  intro e w20 h
  rcases cutPost_cases h with ⟨h1, _⟩ | ⟨_, h2, _⟩ | ⟨ta, tc, tn, htn, _, _, hb, rfl, _, _⟩
  · rw [exSitN] at h1; simp at h1
  · rw [exTakesN] at h2; simp at h2
  rw [exTakesN] at htn
  have htn0 : tn = 0 := htn.symm
  subst htn0
  replace c0 := cell_grown hb c0; replace c1 := cell_grown hb c1; replace c2 := cell_grown hb c2; replace c3 := cell_grown hb c3; replace d0 := cell_grown hb d0; replace d1 := cell_grown hb d1; replace d2 := cell_grown hb d2; replace e0 := cell_grown hb e0; replace e1 := cell_grown hb e1; replace e2 := cell_grown hb e2; replace l0 := cell_grown hb l0; replace l1 := cell_grown hb l1; replace l2 := cell_grown hb l2; replace l3 := cell_grown hb l3; replace n0 := cell_grown hb n0; replace n1 := cell_grown hb n1; replace n2 := cell_grown hb n2; replace n3 := cell_grown hb n3; replace hS := hS.grown hb; replace hC := hC.grown hb; replace hX := hX.grown hb; replace hT := hT.grown hb; replace hN := hN.grown hb
  replace HB := hid (HB.out.trans (hb.mono HB.out.size))
  replace g0 := lt_of_cell c0; replace g1 := lt_of_cell d0; replace g2 := lt_of_cell e0; replace g3 := lt_of_cell l0; replace g4 := lt_of_cell n0
  clear hb h htn
  go_wp2_with fail
  refine (rota_any [(0, 1000)] 1000 180 60 400 30 [(0, 1, 60), (1, 2, 0)] 1 1 2 3 (some ⟨w19.heap.size + 1 + 1, 0, none⟩) ca w20 rfl (by decide) hN rfl (by decide) hT).mono ?_
  intro e w21 hpost
  obtain ⟨nva, nvc, rfl, hb⟩ := exRotaN hpost
  replace c0 := cell_grown hb c0; replace c1 := cell_grown hb c1; replace c2 := cell_grown hb c2; replace c3 := cell_grown hb c3; replace d0 := cell_grown hb d0; replace d1 := cell_grown hb d1; replace d2 := cell_grown hb d2; replace e0 := cell_grown hb e0; replace e1 := cell_grown hb e1; replace e2 := cell_grown hb e2; replace l0 := cell_grown hb l0; replace l1 := cell_grown hb l1; replace l2 := cell_grown hb l2; replace l3 := cell_grown hb l3; replace n0 := cell_grown hb n0; replace n1 := cell_grown hb n1; replace n2 := cell_grown hb n2; replace n3 := cell_grown hb n3; replace hS := hS.grown hb; replace hC := hC.grown hb; replace hX := hX.grown hb; replace hT := hT.grown hb; replace hN := hN.grown hb
  replace HB := hid (HB.out.trans (hb.mono HB.out.size))
  replace g0 := lt_of_cell c0; replace g1 := lt_of_cell d0; replace g2 := lt_of_cell e0; replace g3 := lt_of_cell l0; replace g4 := lt_of_cell n0
  clear hb hpost
  go_wp2_with fail
  refine (checkSitting_any [(400, 500)] 1000 20 20 1 1 pa w21 rfl (by decide) hS).mono ?_
  rw [exLong]
  rintro e w22 ⟨rfl, hb⟩
  replace c0 := cell_grown hb c0; replace c1 := cell_grown hb c1; replace c2 := cell_grown hb c2; replace c3 := cell_grown hb c3; replace d0 := cell_grown hb d0; replace d1 := cell_grown hb d1; replace d2 := cell_grown hb d2; replace e0 := cell_grown hb e0; replace e1 := cell_grown hb e1; replace e2 := cell_grown hb e2; replace l0 := cell_grown hb l0; replace l1 := cell_grown hb l1; replace l2 := cell_grown hb l2; replace l3 := cell_grown hb l3; replace n0 := cell_grown hb n0; replace n1 := cell_grown hb n1; replace n2 := cell_grown hb n2; replace n3 := cell_grown hb n3; replace hS := hS.grown hb; replace hC := hC.grown hb; replace hX := hX.grown hb; replace hT := hT.grown hb; replace hN := hN.grown hb
  replace HB := hid (HB.out.trans (hb.mono HB.out.size))
  replace g0 := lt_of_cell c0; replace g1 := lt_of_cell d0; replace g2 := lt_of_cell e0; replace g3 := lt_of_cell l0; replace g4 := lt_of_cell n0
  clear hb
  go_wp2_with fail
  refine (checkOffice_any [] 0 0 0 0 none w22 rfl (by decide) (fun i hi => by simp at hi)).mono ?_
  rw [exOffNil, if_neg (by simp)]
  rintro e w23 ⟨rfl, hb⟩
  replace c0 := cell_grown hb c0; replace c1 := cell_grown hb c1; replace c2 := cell_grown hb c2; replace c3 := cell_grown hb c3; replace d0 := cell_grown hb d0; replace d1 := cell_grown hb d1; replace d2 := cell_grown hb d2; replace e0 := cell_grown hb e0; replace e1 := cell_grown hb e1; replace e2 := cell_grown hb e2; replace l0 := cell_grown hb l0; replace l1 := cell_grown hb l1; replace l2 := cell_grown hb l2; replace l3 := cell_grown hb l3; replace n0 := cell_grown hb n0; replace n1 := cell_grown hb n1; replace n2 := cell_grown hb n2; replace n3 := cell_grown hb n3; replace hS := hS.grown hb; replace hC := hC.grown hb; replace hX := hX.grown hb; replace hT := hT.grown hb; replace hN := hN.grown hb
  replace HB := hid (HB.out.trans (hb.mono HB.out.size))
  replace g0 := lt_of_cell c0; replace g1 := lt_of_cell d0; replace g2 := lt_of_cell e0; replace g3 := lt_of_cell l0; replace g4 := lt_of_cell n0
  clear hb
  go_wp2_with fail
  refine (checkSitting_any [] 0 0 0 0 0 none w23 rfl (by decide) (fun i hi => by simp at hi)).mono ?_
  rw [exNil]
  rintro e w24 ⟨rfl, hb⟩
  replace c0 := cell_grown hb c0; replace c1 := cell_grown hb c1; replace c2 := cell_grown hb c2; replace c3 := cell_grown hb c3; replace d0 := cell_grown hb d0; replace d1 := cell_grown hb d1; replace d2 := cell_grown hb d2; replace e0 := cell_grown hb e0; replace e1 := cell_grown hb e1; replace e2 := cell_grown hb e2; replace l0 := cell_grown hb l0; replace l1 := cell_grown hb l1; replace l2 := cell_grown hb l2; replace l3 := cell_grown hb l3; replace n0 := cell_grown hb n0; replace n1 := cell_grown hb n1; replace n2 := cell_grown hb n2; replace n3 := cell_grown hb n3; replace hS := hS.grown hb; replace hC := hC.grown hb; replace hX := hX.grown hb; replace hT := hT.grown hb; replace hN := hN.grown hb
  replace HB := hid (HB.out.trans (hb.mono HB.out.size))
  replace g0 := lt_of_cell c0; replace g1 := lt_of_cell d0; replace g2 := lt_of_cell e0; replace g3 := lt_of_cell l0; replace g4 := lt_of_cell n0
  clear hb
  go_wp2_with fail
  refine (awake_any w24).mono ?_
  rintro e wz ⟨rfl, hb⟩
  go_wp2
  go_ret
  exact ⟨rfl, HB.out.trans (hb.mono HB.out.size)⟩

end Go.Proofs.Ytgapbaelifcifaa
