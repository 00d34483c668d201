/- The law TakeLengths: its walk. -/
import Derived.Test.YtgapbaelifcifaaCE
import Derived.Test.YtgapbaelifcifaaCL
import Derived.Test.YtgapbaelifcifaaGA
import Derived.Sort.AtCall
namespace Go.Proofs.Ytgapbaelifcifaa
open Go.RowKit

theorem sitErr_zero {len long short : Int} {L : List (Int × Int)} (h : sitErr len long short L = 0) : sitOk len long short L = true ∧ (takesOf len long short L).length ≤ 40 := by
  unfold sitErr at h
  split at h
  · omega
  · next h1 =>
    split at h
    · omega
    · exact ⟨by simpa using h1, by omega⟩

theorem sitErr_cases (len long short : Int) (L : List (Int × Int)) : sitErr len long short L = 0 ∨ sitErr len long short L = 1 ∨ sitErr len long short L = 3 := by
  unfold sitErr
  split
  · simp
  · split <;> simp

/-- The take that is short is a whole stretch. -/
theorem whole_of {len long short : Int} {L : List (Int × Int)} (h : sitOk len long short L = true) {x : Int × Int} (hx : x ∈ takesOf len long short L) :
    (0 ≤ x.1 ∧ x.1 < x.2 ∧ x.2 ≤ len) ∧ x.2 - x.1 < long + short ∧ (x.2 - x.1 < short → (x.1 = 0 ∨ pausedM L (x.1 - 1) = true) ∧ (x.2 = len ∨ pausedM L x.2 = true)) := by
  obtain ⟨h1, h2, h3⟩ := takesOf_mem h x hx
  have hp := pausesOk_mem (sitOk_parts h).2.2.2
  refine ⟨h1, h2, fun hs => ?_⟩
  obtain ⟨e1, e2⟩ := h3 hs
  constructor
  · rcases e1 with e1 | ⟨p, hpL, e1⟩
    · exact .inl e1
    · refine .inr ?_
      have := hp p hpL
      unfold pausedM
      rw [List.any_eq_true]
      exact ⟨p, hpL, by simp [inB]; omega⟩
  · rcases e2 with e2 | ⟨p, hpL, e2⟩
    · exact .inl e2
    · refine .inr ?_
      have := hp p hpL
      unfold pausedM
      rw [List.any_eq_true]
      exact ⟨p, hpL, by simp [inB]; omega⟩

set_option maxRecDepth 100000 in
set_option maxHeartbeats 40000000 in
theorem takeLengths_any (L : List (Int × Int)) (len long short : Int) (n cap : Nat) (a : Option Addr) (w : World)
    (hL : L.length = n) (hn : n ≤ maxLen) (hS : Spans w a L) :
    Calls Try.prog 10 #[.agg #[.int .i64 len, .slice a n cap, .int .i64 long, .int .i64 short]] w fun e w' => e = .returned (.bool true) ∧ Below w.heap.size w w' := by
  have hn' := hn
  unfold maxLen at hn'
  have HL := hid hL
  clear hL
  go_enter Try.func10, Try.ntmps10
  obtain ⟨W0, hW0⟩ : ∃ W0, W0 = w.alloc (.cells #[.int .i64 len, .slice a n cap, .int .i64 long, .int .i64 short] 24) := ⟨_, rfl⟩
  have hB0 : Below w.heap.size w W0 := by rw [hW0]; exact (Below.refl _ w).alloc (Nat.le_refl _) _
  have c0 : W0.cell? ⟨w.heap.size, 0, none⟩ = some (.int .i64 len) := by rw [hW0]; simp
  have c1 : W0.cell? ⟨w.heap.size, 1, none⟩ = some (.slice a n cap) := by rw [hW0]; simp
  have c2 : W0.cell? ⟨w.heap.size, 2, none⟩ = some (.int .i64 long) := by rw [hW0]; simp
  have c3 : W0.cell? ⟨w.heap.size, 3, none⟩ = some (.int .i64 short) := by rw [hW0]; simp
  have z0 : W0.heap.size = w.heap.size + 1 := by rw [hW0]; simp
  have hS0 := hS.grown hB0
  by_cases h60 : 60 < n
  · have h60i : (60 : Int) < (n : Int) := by omega
    go_wp2_with fail
    rw [← hW0]
    refine (awake_any W0).mono ?_
    rintro e w' ⟨rfl, hb⟩
    go_wp2
    go_ret
    exact ⟨rfl, hB0.trans (hb.mono (by omega))⟩
  · have h60i : ¬ (60 : Int) < (n : Int) := by omega
    go_wp2_with fail
    rw [← hW0]
    refine (fault_any L len long short n cap a W0 HL.out (by omega) hS0).mono ?_
    rintro e w1 ⟨rfl, hb1⟩
    have z1 := hb1.size
    replace c0 := cell_grown hb1 c0
    replace c1 := cell_grown hb1 c1
    replace c2 := cell_grown hb1 c2
    replace c3 := cell_grown hb1 c3
    replace hS0 := hS0.grown hb1
    have hB1 := hB0.trans (hb1.mono (by omega))
    clear hb1 hB0 hW0
    rcases sitErr_cases len long short L with h0 | h0 | h0
    · obtain ⟨hok, h40⟩ := sitErr_zero h0
      rw [h0]
      have HOK := hid hok
      clear h0 hok
      go_wp2_with fail
      refine (sitting_any L len long short n cap a w1 HL.out (by omega) hS0).mono ?_
      rintro e w2 ⟨ra, rc, rfl, hSr, hb2⟩
      have z2 := hb2.size
      replace c0 := cell_grown hb2 c0
      replace c1 := cell_grown hb2 c1
      replace c2 := cell_grown hb2 c2
      replace c3 := cell_grown hb2 c3
      replace hS0 := hS0.grown hb2
      have hB2 := hB1.trans (hb2.mono (by omega))
      clear hb2 hB1
      go_wp2_with fail
      refine (takes_any L len long short n rc ra w2 HL.out hn hSr).mono ?_
      intro e w3 h
      rcases cutPost_cases h with ⟨h1, _⟩ | ⟨_, h2, _⟩ | ⟨ta, tc, m, hm, _, hm40, hb3, rfl, hT, _⟩
      · rw [HOK.out] at h1; simp at h1
      · omega
      · have z3 := hb3.size
        replace c0 := cell_grown hb3 c0
        replace c1 := cell_grown hb3 c1
        replace c2 := cell_grown hb3 c2
        replace c3 := cell_grown hb3 c3
        replace hS0 := hS0.grown hb3
        have hB3 := hB2.trans (hb3.mono (by omega))
        have HM := hid hm
        clear hb3 hB2 h hm h40
        have hwh : ∀ x ∈ takesOf len long short L, (0 ≤ x.1 ∧ x.1 < x.2 ∧ x.2 ≤ len) ∧ x.2 - x.1 < long + short ∧ (x.2 - x.1 < short → (x.1 = 0 ∨ pausedM L (x.1 - 1) = true) ∧ (x.2 = len ∨ pausedM L x.2 = true)) := fun x hx => whole_of HOK.out hx
        have HWH := hid hwh
        have hparts := sitOk_parts HOK.out
        have HBD : Hid (∀ p ∈ L, 0 ≤ p.2 ∧ p.2 ≤ 36000) := hid (fun p hp => by have := pausesOk_mem hparts.2.2.2 p hp; omega)
        obtain ⟨q1, q2, q3, -⟩ := hparts
        clear hwh
        obtain ⟨T, hTT⟩ : ∃ T, takesOf len long short L = T := ⟨_, rfl⟩
        rw [hTT] at hT HM HWH
        clear hTT HOK hSr
        go_wp2_with fail
        go_loopw [5] (fun i wr => ∃ k : Nat, k ≤ m ∧ i = .int .i64 k ∧ Below w3.heap.size w3 wr) (fun i _ => m - (intOf i).toNat)
        case atStart => exact ⟨0, Nat.zero_le _, rfl, Below.refl _ _⟩
        case round =>
          obtain ⟨k, hk, rfl, hB⟩ := hrel
          have zr := hB.size
          by_cases hlt : k < m
          · obtain ⟨b, off, rfl, e1, e2⟩ := hT k (by rw [HM.out]; exact hlt)
            have hmem : T.getD k (0, 0) ∈ T := by rw [List.getD_eq_getElem?_getD, List.getElem?_eq_getElem (by rw [HM.out]; exact hlt), Option.getD_some]; exact List.getElem_mem _
            have hx := HWH.out _ hmem
            obtain ⟨x, hxx⟩ : ∃ x, T.getD k (0, 0) = x := ⟨_, rfl⟩
            rw [hxx] at hx e1 e2
            obtain ⟨f, t⟩ := x
            simp only at hx e1 e2
            obtain ⟨hx1, hx2, hx3⟩ := hx
            have HX := hid hx3
            have gb0 := lt_of_cell e1
            clear hx3 hxx hmem
            have f1 := cell_grown hB e1
            have f2 := cell_grown hB e2
            have y0 := cell_grown hB c0
            have y1 := cell_grown hB c1
            have y2 := cell_grown hB c2
            have y3 := cell_grown hB c3
            have gw := lt_of_cell y0
            have gb := lt_of_cell f1
            have hkk : (k : Int) < m := by omega
            go_wp2_with fail
            go_big_quiet (fail)
            obtain ⟨Wq, hWq⟩ : ∃ W, W = wr.drewN nq := ⟨_, rfl⟩
            have hBq := below_drewN hB nq
            rw [← hWq] at hBq ⊢
            clear y0 y1 y2 y3 f1 f2 hWq gw gb
            have zq := hBq.size
            have hSq := hS0.grown hBq
            have f1 := cell_grown hBq e1
            have f2 := cell_grown hBq e2
            have y0 := cell_grown hBq c0
            have y1 := cell_grown hBq c1
            have y2 := cell_grown hBq c2
            have y3 := cell_grown hBq c3
            have gw := lt_of_cell y0
            have gb := lt_of_cell f1
            go_wp2_with fail
            by_cases b1 : f = 0
            · subst b1
              by_cases b2 : t = len
              · have b2' : (t == len) = true := by simpa using b2
                subst b2
                have o0 : ∀ p : Over Wq, p.w.cell? ⟨w.heap.size, 0, none⟩ = some (.int .i64 t) := fun p => p.cell y0
                have o1 : ∀ p : Over Wq, p.w.cell? ⟨w.heap.size, 1, none⟩ = some (.slice a n cap) := fun p => p.cell y1
                have o2 : ∀ p : Over Wq, p.w.cell? ⟨w.heap.size, 2, none⟩ = some (.int .i64 long) := fun p => p.cell y2
                have o3 : ∀ p : Over Wq, p.w.cell? ⟨w.heap.size, 3, none⟩ = some (.int .i64 short) := fun p => p.cell y3
                have o4 : ∀ p : Over Wq, p.w.cell? ⟨b, off + k * 2, none⟩ = some (.int .i64 0) := fun p => p.cell f1
                have o5 : ∀ p : Over Wq, p.w.cell? ⟨b, off + k * 2 + 1, none⟩ = some (.int .i64 t) := fun p => p.cell f2
                refine wp_region_over Wq (Below.refl _ _) (by kernel_rfl) (by kernel_rfl) ?_
                repeat (go_big_quiet_step (fail))
                refine wpQuiet_nil ?_
                intro wz hw'
                have hbz := over_below hw'
                clear hw' o0 o1 o2 o3 o4 o5
                replace y0 := cell_grown hbz y0
                replace y1 := cell_grown hbz y1
                replace y2 := cell_grown hbz y2
                replace y3 := cell_grown hbz y3
                replace f1 := cell_grown hbz f1
                replace f2 := cell_grown hbz f2
                have hBz := hBq.trans (hbz.mono zq)
                clear hbz
                by_cases hs : t - (0 : Int) < short
                · go_wp2
                  go_roundw
                  case rel => exact ⟨k + 1, by omega, by go_num, hBz⟩
                  case measure => simp [intOf]; omega
                · go_wp2
                  go_roundw
                  case rel => exact ⟨k + 1, by omega, by go_num, hBz⟩
                  case measure => simp [intOf]; omega
              · have b2' : (t == len) = false := by simpa using b2
                cases p2 : pausedM L t
                · have HP2 := hid p2
                  clear p2
                  have hns : ¬ t - (0 : Int) < short := (fun h => ((HX.out h).2).elim (fun e => b2 e) (fun e => by rw [HP2.out] at e; simp at e))
                  have o0 : ∀ p : Over Wq, p.w.cell? ⟨w.heap.size, 0, none⟩ = some (.int .i64 len) := fun p => p.cell y0
                  have o1 : ∀ p : Over Wq, p.w.cell? ⟨w.heap.size, 1, none⟩ = some (.slice a n cap) := fun p => p.cell y1
                  have o2 : ∀ p : Over Wq, p.w.cell? ⟨w.heap.size, 2, none⟩ = some (.int .i64 long) := fun p => p.cell y2
                  have o3 : ∀ p : Over Wq, p.w.cell? ⟨w.heap.size, 3, none⟩ = some (.int .i64 short) := fun p => p.cell y3
                  have o4 : ∀ p : Over Wq, p.w.cell? ⟨b, off + k * 2, none⟩ = some (.int .i64 0) := fun p => p.cell f1
                  have o5 : ∀ p : Over Wq, p.w.cell? ⟨b, off + k * 2 + 1, none⟩ = some (.int .i64 t) := fun p => p.cell f2
                  refine wp_region_over Wq (Below.refl _ _) (by kernel_rfl) (by kernel_rfl) ?_
                  repeat (go_big_quiet_step (first | (go_at_call_has 47 t; refine Calls.over_of (v := .bool false) ((paused_any L len long short t n cap a _ HL.out hn HBD.out (hSq.grown (Over.h _))).mono ?_); rintro e w4 ⟨rfl, hb4⟩; rw [HP2.out]; exact ⟨rfl, hb4⟩)))
                  refine wpQuiet_nil ?_
                  intro wz hw'
                  have hbz := over_below hw'
                  clear hw' o0 o1 o2 o3 o4 o5
                  replace y0 := cell_grown hbz y0
                  replace y1 := cell_grown hbz y1
                  replace y2 := cell_grown hbz y2
                  replace y3 := cell_grown hbz y3
                  replace f1 := cell_grown hbz f1
                  replace f2 := cell_grown hbz f2
                  have hBz := hBq.trans (hbz.mono zq)
                  clear hbz
                  go_wp2
                  go_roundw
                  case rel => exact ⟨k + 1, by omega, by go_num, hBz⟩
                  case measure => simp [intOf]; omega
                · have HP2 := hid p2
                  clear p2
                  have o0 : ∀ p : Over Wq, p.w.cell? ⟨w.heap.size, 0, none⟩ = some (.int .i64 len) := fun p => p.cell y0
                  have o1 : ∀ p : Over Wq, p.w.cell? ⟨w.heap.size, 1, none⟩ = some (.slice a n cap) := fun p => p.cell y1
                  have o2 : ∀ p : Over Wq, p.w.cell? ⟨w.heap.size, 2, none⟩ = some (.int .i64 long) := fun p => p.cell y2
                  have o3 : ∀ p : Over Wq, p.w.cell? ⟨w.heap.size, 3, none⟩ = some (.int .i64 short) := fun p => p.cell y3
                  have o4 : ∀ p : Over Wq, p.w.cell? ⟨b, off + k * 2, none⟩ = some (.int .i64 0) := fun p => p.cell f1
                  have o5 : ∀ p : Over Wq, p.w.cell? ⟨b, off + k * 2 + 1, none⟩ = some (.int .i64 t) := fun p => p.cell f2
                  refine wp_region_over Wq (Below.refl _ _) (by kernel_rfl) (by kernel_rfl) ?_
                  repeat (go_big_quiet_step (first | (go_at_call_has 47 t; refine Calls.over_of (v := .bool true) ((paused_any L len long short t n cap a _ HL.out hn HBD.out (hSq.grown (Over.h _))).mono ?_); rintro e w4 ⟨rfl, hb4⟩; rw [HP2.out]; exact ⟨rfl, hb4⟩)))
                  refine wpQuiet_nil ?_
                  intro wz hw'
                  have hbz := over_below hw'
                  clear hw' o0 o1 o2 o3 o4 o5
                  replace y0 := cell_grown hbz y0
                  replace y1 := cell_grown hbz y1
                  replace y2 := cell_grown hbz y2
                  replace y3 := cell_grown hbz y3
                  replace f1 := cell_grown hbz f1
                  replace f2 := cell_grown hbz f2
                  have hBz := hBq.trans (hbz.mono zq)
                  clear hbz
                  by_cases hs : t - (0 : Int) < short
                  · go_wp2
                    go_roundw
                    case rel => exact ⟨k + 1, by omega, by go_num, hBz⟩
                    case measure => simp [intOf]; omega
                  · go_wp2
                    go_roundw
                    case rel => exact ⟨k + 1, by omega, by go_num, hBz⟩
                    case measure => simp [intOf]; omega
            · have b1' : (f == 0) = false := by simpa using b1
              cases p1 : pausedM L (f - 1)
              · have HP1 := hid p1
                clear p1
                have hns : ¬ t - f < short := (fun h => ((HX.out h).1).elim (fun e => b1 e) (fun e => by rw [HP1.out] at e; simp at e))
                have o0 : ∀ p : Over Wq, p.w.cell? ⟨w.heap.size, 0, none⟩ = some (.int .i64 len) := fun p => p.cell y0
                have o1 : ∀ p : Over Wq, p.w.cell? ⟨w.heap.size, 1, none⟩ = some (.slice a n cap) := fun p => p.cell y1
                have o2 : ∀ p : Over Wq, p.w.cell? ⟨w.heap.size, 2, none⟩ = some (.int .i64 long) := fun p => p.cell y2
                have o3 : ∀ p : Over Wq, p.w.cell? ⟨w.heap.size, 3, none⟩ = some (.int .i64 short) := fun p => p.cell y3
                have o4 : ∀ p : Over Wq, p.w.cell? ⟨b, off + k * 2, none⟩ = some (.int .i64 f) := fun p => p.cell f1
                have o5 : ∀ p : Over Wq, p.w.cell? ⟨b, off + k * 2 + 1, none⟩ = some (.int .i64 t) := fun p => p.cell f2
                refine wp_region_over Wq (Below.refl _ _) (by kernel_rfl) (by kernel_rfl) ?_
                repeat (go_big_quiet_step (first | (go_at_call_has 47 (f - 1); refine Calls.over_of (v := .bool false) ((paused_any L len long short (f - 1) n cap a _ HL.out hn HBD.out (hSq.grown (Over.h _))).mono ?_); rintro e w4 ⟨rfl, hb4⟩; rw [HP1.out]; exact ⟨rfl, hb4⟩)))
                refine wpQuiet_nil ?_
                intro wz hw'
                have hbz := over_below hw'
                clear hw' o0 o1 o2 o3 o4 o5
                replace y0 := cell_grown hbz y0
                replace y1 := cell_grown hbz y1
                replace y2 := cell_grown hbz y2
                replace y3 := cell_grown hbz y3
                replace f1 := cell_grown hbz f1
                replace f2 := cell_grown hbz f2
                have hBz := hBq.trans (hbz.mono zq)
                clear hbz
                go_wp2
                go_roundw
                case rel => exact ⟨k + 1, by omega, by go_num, hBz⟩
                case measure => simp [intOf]; omega
              · have HP1 := hid p1
                clear p1
                by_cases b2 : t = len
                · have b2' : (t == len) = true := by simpa using b2
                  subst b2
                  have o0 : ∀ p : Over Wq, p.w.cell? ⟨w.heap.size, 0, none⟩ = some (.int .i64 t) := fun p => p.cell y0
                  have o1 : ∀ p : Over Wq, p.w.cell? ⟨w.heap.size, 1, none⟩ = some (.slice a n cap) := fun p => p.cell y1
                  have o2 : ∀ p : Over Wq, p.w.cell? ⟨w.heap.size, 2, none⟩ = some (.int .i64 long) := fun p => p.cell y2
                  have o3 : ∀ p : Over Wq, p.w.cell? ⟨w.heap.size, 3, none⟩ = some (.int .i64 short) := fun p => p.cell y3
                  have o4 : ∀ p : Over Wq, p.w.cell? ⟨b, off + k * 2, none⟩ = some (.int .i64 f) := fun p => p.cell f1
                  have o5 : ∀ p : Over Wq, p.w.cell? ⟨b, off + k * 2 + 1, none⟩ = some (.int .i64 t) := fun p => p.cell f2
                  refine wp_region_over Wq (Below.refl _ _) (by kernel_rfl) (by kernel_rfl) ?_
                  repeat (go_big_quiet_step (first | (go_at_call_has 47 (f - 1); refine Calls.over_of (v := .bool true) ((paused_any L t long short (f - 1) n cap a _ HL.out hn HBD.out (hSq.grown (Over.h _))).mono ?_); rintro e w4 ⟨rfl, hb4⟩; rw [HP1.out]; exact ⟨rfl, hb4⟩)))
                  refine wpQuiet_nil ?_
                  intro wz hw'
                  have hbz := over_below hw'
                  clear hw' o0 o1 o2 o3 o4 o5
                  replace y0 := cell_grown hbz y0
                  replace y1 := cell_grown hbz y1
                  replace y2 := cell_grown hbz y2
                  replace y3 := cell_grown hbz y3
                  replace f1 := cell_grown hbz f1
                  replace f2 := cell_grown hbz f2
                  have hBz := hBq.trans (hbz.mono zq)
                  clear hbz
                  by_cases hs : t - f < short
                  · go_wp2
                    go_roundw
                    case rel => exact ⟨k + 1, by omega, by go_num, hBz⟩
                    case measure => simp [intOf]; omega
                  · go_wp2
                    go_roundw
                    case rel => exact ⟨k + 1, by omega, by go_num, hBz⟩
                    case measure => simp [intOf]; omega
                · have b2' : (t == len) = false := by simpa using b2
                  cases p2 : pausedM L t
                  · have HP2 := hid p2
                    clear p2
                    have hns : ¬ t - f < short := (fun h => ((HX.out h).2).elim (fun e => b2 e) (fun e => by rw [HP2.out] at e; simp at e))
                    have o0 : ∀ p : Over Wq, p.w.cell? ⟨w.heap.size, 0, none⟩ = some (.int .i64 len) := fun p => p.cell y0
                    have o1 : ∀ p : Over Wq, p.w.cell? ⟨w.heap.size, 1, none⟩ = some (.slice a n cap) := fun p => p.cell y1
                    have o2 : ∀ p : Over Wq, p.w.cell? ⟨w.heap.size, 2, none⟩ = some (.int .i64 long) := fun p => p.cell y2
                    have o3 : ∀ p : Over Wq, p.w.cell? ⟨w.heap.size, 3, none⟩ = some (.int .i64 short) := fun p => p.cell y3
                    have o4 : ∀ p : Over Wq, p.w.cell? ⟨b, off + k * 2, none⟩ = some (.int .i64 f) := fun p => p.cell f1
                    have o5 : ∀ p : Over Wq, p.w.cell? ⟨b, off + k * 2 + 1, none⟩ = some (.int .i64 t) := fun p => p.cell f2
                    refine wp_region_over Wq (Below.refl _ _) (by kernel_rfl) (by kernel_rfl) ?_
                    repeat (go_big_quiet_step (first | (go_at_call_has 47 (f - 1); refine Calls.over_of (v := .bool true) ((paused_any L len long short (f - 1) n cap a _ HL.out hn HBD.out (hSq.grown (Over.h _))).mono ?_); rintro e w4 ⟨rfl, hb4⟩; rw [HP1.out]; exact ⟨rfl, hb4⟩) | (go_at_call_has 47 t; refine Calls.over_of (v := .bool false) ((paused_any L len long short t n cap a _ HL.out hn HBD.out (hSq.grown (Over.h _))).mono ?_); rintro e w4 ⟨rfl, hb4⟩; rw [HP2.out]; exact ⟨rfl, hb4⟩)))
                    refine wpQuiet_nil ?_
                    intro wz hw'
                    have hbz := over_below hw'
                    clear hw' o0 o1 o2 o3 o4 o5
                    replace y0 := cell_grown hbz y0
                    replace y1 := cell_grown hbz y1
                    replace y2 := cell_grown hbz y2
                    replace y3 := cell_grown hbz y3
                    replace f1 := cell_grown hbz f1
                    replace f2 := cell_grown hbz f2
                    have hBz := hBq.trans (hbz.mono zq)
                    clear hbz
                    go_wp2
                    go_roundw
                    case rel => exact ⟨k + 1, by omega, by go_num, hBz⟩
                    case measure => simp [intOf]; omega
                  · have HP2 := hid p2
                    clear p2
                    have o0 : ∀ p : Over Wq, p.w.cell? ⟨w.heap.size, 0, none⟩ = some (.int .i64 len) := fun p => p.cell y0
                    have o1 : ∀ p : Over Wq, p.w.cell? ⟨w.heap.size, 1, none⟩ = some (.slice a n cap) := fun p => p.cell y1
                    have o2 : ∀ p : Over Wq, p.w.cell? ⟨w.heap.size, 2, none⟩ = some (.int .i64 long) := fun p => p.cell y2
                    have o3 : ∀ p : Over Wq, p.w.cell? ⟨w.heap.size, 3, none⟩ = some (.int .i64 short) := fun p => p.cell y3
                    have o4 : ∀ p : Over Wq, p.w.cell? ⟨b, off + k * 2, none⟩ = some (.int .i64 f) := fun p => p.cell f1
                    have o5 : ∀ p : Over Wq, p.w.cell? ⟨b, off + k * 2 + 1, none⟩ = some (.int .i64 t) := fun p => p.cell f2
                    refine wp_region_over Wq (Below.refl _ _) (by kernel_rfl) (by kernel_rfl) ?_
                    repeat (go_big_quiet_step (first | (go_at_call_has 47 (f - 1); refine Calls.over_of (v := .bool true) ((paused_any L len long short (f - 1) n cap a _ HL.out hn HBD.out (hSq.grown (Over.h _))).mono ?_); rintro e w4 ⟨rfl, hb4⟩; rw [HP1.out]; exact ⟨rfl, hb4⟩) | (go_at_call_has 47 t; refine Calls.over_of (v := .bool true) ((paused_any L len long short t n cap a _ HL.out hn HBD.out (hSq.grown (Over.h _))).mono ?_); rintro e w4 ⟨rfl, hb4⟩; rw [HP2.out]; exact ⟨rfl, hb4⟩)))
                    refine wpQuiet_nil ?_
                    intro wz hw'
                    have hbz := over_below hw'
                    clear hw' o0 o1 o2 o3 o4 o5
                    replace y0 := cell_grown hbz y0
                    replace y1 := cell_grown hbz y1
                    replace y2 := cell_grown hbz y2
                    replace y3 := cell_grown hbz y3
                    replace f1 := cell_grown hbz f1
                    replace f2 := cell_grown hbz f2
                    have hBz := hBq.trans (hbz.mono zq)
                    clear hbz
                    by_cases hs : t - f < short
                    · go_wp2
                      go_roundw
                      case rel => exact ⟨k + 1, by omega, by go_num, hBz⟩
                      case measure => simp [intOf]; omega
                    · go_wp2
                      go_roundw
                      case rel => exact ⟨k + 1, by omega, by go_num, hBz⟩
                      case measure => simp [intOf]; omega
          · go_wp2_with fail
            refine (awake_any wr).mono ?_
            rintro e w' ⟨rfl, hb⟩
            go_wp2
            go_ret
            exact ⟨rfl, (hB3.trans (hB.mono (by omega))).trans (hb.mono (by omega))⟩
    all_goals
      rw [h0]
      go_wp2_with fail
      refine (awake_any w1).mono ?_
      rintro e w' ⟨rfl, hb⟩
      go_wp2
      go_ret
      exact ⟨rfl, hB1.trans (hb.mono (by omega))⟩

end Go.Proofs.Ytgapbaelifcifaa
