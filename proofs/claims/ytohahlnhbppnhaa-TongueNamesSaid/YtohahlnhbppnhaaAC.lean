/- Tongue: the document's first examples. -/
import Derived.Test.YtohahlnhbppnhaaAB
namespace Go.Proofs.Ytohahlnhbppnhaa
open Go.RowKit
set_option linter.unusedSimpArgs false
set_option linter.unusedVariables false

theorem add_plain (g o j : Nat) : (⟨g, o, none⟩ : Addr).add j = ⟨g, o + j, none⟩ := by unfold Addr.add; split <;> simp_all

set_option maxRecDepth 100000 in
set_option maxHeartbeats 1000000 in
theorem sides_make (w : World) : Calls Try.prog 44 #[] w fun e w' => ∃ a b, e = .returned (.tuple #[.slice a 3 3, .slice b 3 3]) ∧ TextAt w' a exL ∧ TextAt w' b exR ∧ Below w.heap.size w w' := by
  go_enter Try.func44, Try.ntmps44
  go_wp2_with fail
  refine bodyPost_ret (v := .tuple #[.slice (some ⟨w.heap.size + 1 + 1, 0, none⟩) 3 3, .slice (some ⟨w.heap.size + 1 + 1 + 1 + 1 + 1, 0, none⟩) 3 3]) (by simp [results, Try.f44, go_sem]) rfl ⟨_, _, rfl, ?_, ?_, ?_⟩
  · intro i hi
    have hi3 : i < 3 := hi
    rcases i with _ | _ | _ | i
    · refine ⟨w.heap.size + 1 + 1, 0, some ⟨w.heap.size, 0, none⟩, 2, rfl, by simp [go_sem, exL], by simp [go_sem, exL], fun k hk => ?_⟩
      have hk2 : k < 2 := hk
      rcases k with _ | _ | k
      · exact ⟨w.heap.size, 0, rfl, by simp [go_sem, exL]⟩
      · exact ⟨w.heap.size, 0, rfl, by simp [go_sem, exL]⟩
      · omega
    · refine ⟨w.heap.size + 1 + 1, 0, some ⟨w.heap.size + 1, 0, none⟩, 1, rfl, by simp [go_sem, exL], by simp [go_sem, exL], fun k hk => ?_⟩
      have hk2 : k < 1 := hk
      rcases k with _ | k
      · exact ⟨w.heap.size + 1, 0, rfl, by simp [go_sem, exL]⟩
      · omega
    · refine ⟨w.heap.size + 1 + 1, 0, none, 0, rfl, by simp [go_sem, exL], by simp [go_sem, exL], fun k hk => ?_⟩
      have hk2 : k < 0 := hk
      omega
    · omega
  · intro i hi
    have hi3 : i < 3 := hi
    rcases i with _ | _ | _ | i
    · refine ⟨w.heap.size + 1 + 1 + 1 + 1 + 1, 0, some ⟨w.heap.size + 1 + 1 + 1, 0, none⟩, 1, rfl, by simp [go_sem, exR], by simp [go_sem, exR], fun k hk => ?_⟩
      have hk2 : k < 1 := hk
      rcases k with _ | k
      · exact ⟨w.heap.size + 1 + 1 + 1, 0, rfl, by simp [go_sem, exR]⟩
      · omega
    · refine ⟨w.heap.size + 1 + 1 + 1 + 1 + 1, 0, some ⟨w.heap.size + 1 + 1 + 1 + 1, 0, none⟩, 2, rfl, by simp [go_sem, exR], by simp [go_sem, exR], fun k hk => ?_⟩
      have hk2 : k < 2 := hk
      rcases k with _ | _ | k
      · exact ⟨w.heap.size + 1 + 1 + 1 + 1, 0, rfl, by simp [go_sem, exR]⟩
      · exact ⟨w.heap.size + 1 + 1 + 1 + 1, 0, rfl, by simp [go_sem, exR]⟩
      · omega
    · refine ⟨w.heap.size + 1 + 1 + 1 + 1 + 1, 0, none, 0, rfl, by simp [go_sem, exR], by simp [go_sem, exR], fun k hk => ?_⟩
      have hk2 : k < 0 := hk
      omega
    · omega
  · exact (((((((Below.refl _ w).alloc (Nat.le_refl _) _).alloc (by simp) _).alloc (by simp; omega) _).alloc (by simp; omega) _).alloc (by simp; omega) _).alloc (by simp; omega) _)

set_option maxRecDepth 100000 in
set_option maxHeartbeats 1000000 in
theorem slow_make (w : World) : Calls Try.prog 46 #[] w fun e w' => ∃ a b, e = .returned (.agg #[.slice a 3 3, .int .i64 3, .slice b 3 3]) ∧ IntsAt w' a exS.starts ∧ PairsAt w' b exS.needs ∧ Below w.heap.size w w' := by
  go_enter Try.func46, Try.ntmps46
  go_wp2_with fail
  refine bodyPost_ret (v := .agg #[.slice (some ⟨w.heap.size + 1, 0, none⟩) 3 3, .int .i64 3, .slice (some ⟨w.heap.size + 1 + 1, 0, none⟩) 3 3]) (by simp [results, Try.f46, go_sem]) rfl ⟨_, _, rfl, ?_, ?_, ?_⟩
  · intro i hi
    have hi3 : i < 3 := hi
    rcases i with _ | _ | _ | i
    · exact ⟨w.heap.size + 1, 0, rfl, by simp [go_sem, exS]⟩
    · exact ⟨w.heap.size + 1, 0, rfl, by simp [go_sem, exS]⟩
    · exact ⟨w.heap.size + 1, 0, rfl, by simp [go_sem, exS]⟩
    · omega
  · intro i hi
    have hi3 : i < 3 := hi
    rcases i with _ | _ | _ | i
    · exact ⟨w.heap.size + 1 + 1, 0, rfl, by simp [go_sem, exS], by simp [go_sem, exS]⟩
    · exact ⟨w.heap.size + 1 + 1, 0, rfl, by simp [go_sem, exS], by simp [go_sem, exS]⟩
    · exact ⟨w.heap.size + 1 + 1, 0, rfl, by simp [go_sem, exS], by simp [go_sem, exS]⟩
    · omega
  · exact (((Below.refl _ w).alloc (Nat.le_refl _) _).alloc (by simp) _).alloc (by simp; omega) _

theorem exL_small : Small exL := by
  refine ⟨by decide, fun s hs => ?_⟩
  simp only [exL, List.mem_cons, List.not_mem_nil, or_false] at hs
  rcases hs with rfl | rfl | rfl <;> simp

theorem exR_small : Small exR := by
  refine ⟨by decide, fun s hs => ?_⟩
  simp only [exR, List.mem_cons, List.not_mem_nil, or_false] at hs
  rcases hs with rfl | rfl | rfl <;> simp

theorem match_ex (a b : Option Addr) (w : World) (hA : TextAt w a exL) (hB : TextAt w b exR) : Calls Try.prog 19 #[.slice a 3 3, .slice b 3 3] w fun e w' => ∃ sa sc, e = .returned (.tuple #[.slice sa 3 sc, .int .i64 4, .int .i64 0]) ∧ StepsAt w' sa [(1, 1), (1, 1), (1, 1)] ∧ Below w.heap.size w w' :=
  (match_any exL exR 3 3 3 3 a b w rfl rfl exL_small exR_small hA hB (Nat.le_refl _) (Nat.le_refl _)).mono fun e w' h => by
    obtain ⟨hb, ⟨hne, -⟩ | ⟨-, sa, sc, rfl, hs⟩⟩ := h
    · exact (hne ex_fault).elim
    · rw [ex_best] at hs
      exact ⟨sa, sc, by rw [ex_best, ex_rest]; rfl, hs, hb⟩

theorem cost_ex (a b sa : Option Addr) (sc : Nat) (w : World) (hA : TextAt w a exL) (hB : TextAt w b exR) (hP : PairsAt w sa [(1, 2), (1, 0), (1, 1)]) : Calls Try.prog 23 #[.slice a 3 3, .slice b 3 3, .slice sa 3 sc] w fun e w' => e = .returned (.tuple #[.int .i64 8, .int .i64 0]) ∧ Below w.heap.size w w' :=
  (costOf_any exL exR 3 3 3 3 a b w rfl rfl exL_small exR_small hA hB (Nat.le_refl _) (Nat.le_refl _) [(1, 2), (1, 0), (1, 1)] 3 sc sa rfl (by decide) hP).mono fun e w' h => by
    have hc : (matchM exL.length exR.length [(1, 2), (1, 0), (1, 1)]).map (costM exL exR) = some 8 := ex_cost
    obtain ⟨hb, ⟨hne, -⟩ | ⟨-, hm, -⟩ | ⟨-, ms, hm, rfl⟩⟩ := h
    · exact (hne ex_fault).elim
    · rw [hm] at hc; cases hc
    · rw [hm] at hc
      simp only [Option.map_some, Option.some.injEq] at hc
      rw [hc]
      exact ⟨rfl, hb⟩

theorem behind_ex (a b : Option Addr) (w : World) (hS : IntsAt w a exS.starts) (hN : PairsAt w b exS.needs) : Calls Try.prog 38 #[.agg #[.slice a 3 3, .int .i64 3, .slice b 3 3], .int .i64 9] w fun e w' => ∃ ta tc, e = .returned (.tuple #[.slice ta 3 tc, .bool false, .int .i64 0]) ∧ PairsAt w' ta [(7, 9), (18, 21), (20, 24)] ∧ Below w.heap.size w w' :=
  (behindOf_any exS 9 3 3 3 3 a b w rfl rfl (by decide) (by decide) hS hN).mono fun e w' h => by
    obtain ⟨hb, ⟨hv, -⟩ | ⟨-, hi, -⟩ | ⟨-, -, ta, tc, rfl, ht⟩⟩ := h
    · rw [ex_valid] at hv; cases hv
    · exact absurd hi (by decide)
    · rw [ex_times] at ht
      exact ⟨ta, tc, by rw [ex_keeps], ht, hb⟩

theorem two_eql85 (x1 x2 y1 y2 : Int) (w : World) : (binOp .eql 85 (.agg #[.int .i64 x1, .int .i64 x2]) (.agg #[.int .i64 y1, .int .i64 y2])).run Try.prog w = .ok (.bool (decide (x1 = y1 ∧ x2 = y2))) w := by
  have u3 := Try.underlying3
  have a3 := Try.isAgg3
  have z3 := Try.sizeOf3
  have hS : Try.prog.underlying 85 = some (.struct (Try.prog.fieldsOf 85)) := by kernel_rfl
  have hp : Try.prog.stoodInHeld 85 = false := by kernel_rfl
  rw [run_eql_struct, show (10000 : Nat) = 9999 + 1 from rfl, run_equalIn_agg w 9999 85 _ _ hS hp]
  simp only [Program.fieldsOf, Try.underlying85]
  go_simp
  by_cases h1 : x1 = y1 <;> by_cases h2 : x2 = y2 <;> simp [h1, h2]

theorem Try.guard85 : Try.prog.eqGuardType Try.prog.depth 85 = false := by kernel_rfl

theorem pairs_new (w : World) : PairsAt (w.alloc (.cells #[.int .i64 1, .int .i64 2, .int .i64 1, .int .i64 0, .int .i64 1, .int .i64 1] 36)) (some ⟨w.heap.size, 0, none⟩) [(1, 2), (1, 0), (1, 1)] := by
  intro i hi
  have hi3 : i < 3 := hi
  rcases i with _ | _ | _ | i
  · exact ⟨_, 0, rfl, by simp [go_sem], by simp [go_sem]⟩
  · exact ⟨_, 0, rfl, by simp [go_sem], by simp [go_sem]⟩
  · exact ⟨_, 0, rfl, by simp [go_sem], by simp [go_sem]⟩
  · omega

theorem three_pairs {w : World} {a : Option Addr} {x0 x1 x2 : Int × Int} (h : PairsAt w a [x0, x1, x2]) : ∃ b o, a = some ⟨b, o, none⟩ ∧ w.cell? ⟨b, o, none⟩ = some (.int .i64 x0.1) ∧ w.cell? ⟨b, o + 1, none⟩ = some (.int .i64 x0.2) ∧ w.cell? ⟨b, o + 2, none⟩ = some (.int .i64 x1.1) ∧ w.cell? ⟨b, o + 3, none⟩ = some (.int .i64 x1.2) ∧ w.cell? ⟨b, o + 4, none⟩ = some (.int .i64 x2.1) ∧ w.cell? ⟨b, o + 5, none⟩ = some (.int .i64 x2.2) := by
  obtain ⟨b, o, e0, c0, c1⟩ := h 0 (by simp)
  obtain ⟨b', o', e1, c2, c3⟩ := h 1 (by simp)
  obtain ⟨b'', o'', e2, c4, c5⟩ := h 2 (by simp)
  subst e0
  cases e1
  cases e2
  exact ⟨b, o, rfl, c0, c1, c2, c3, c4, c5⟩

theorem three_steps {w : World} {a : Option Addr} (h : StepsAt w a [(1, 1), (1, 1), (1, 1)]) : ∃ b o, a = some ⟨b, o, none⟩ ∧ w.cell? ⟨b, o, none⟩ = some (.int .i64 1) ∧ w.cell? ⟨b, o + 1, none⟩ = some (.int .i64 1) ∧ w.cell? ⟨b, o + 2, none⟩ = some (.int .i64 1) ∧ w.cell? ⟨b, o + 3, none⟩ = some (.int .i64 1) ∧ w.cell? ⟨b, o + 4, none⟩ = some (.int .i64 1) ∧ w.cell? ⟨b, o + 5, none⟩ = some (.int .i64 1) := by
  obtain ⟨b, o, e0, c0, c1⟩ := h 0 (by simp)
  obtain ⟨b', o', e1, c2, c3⟩ := h 1 (by simp)
  obtain ⟨b'', o'', e2, c4, c5⟩ := h 2 (by simp)
  subst e0
  cases e1
  cases e2
  exact ⟨b, o, rfl, c0, c1, c2, c3, c4, c5⟩

set_option maxRecDepth 100000 in
set_option maxHeartbeats 4000000 in
theorem wakes_any (w : World) : Calls Try.prog 18 #[] w fun e w' => e = .returned (.bool true) ∧ Below w.heap.size w w' := by
  have h11 : ∀ W : World, (binOp .eql 36 (.agg #[.int .i64 1, .int .i64 1]) (.agg #[.int .i64 1, .int .i64 1])).run Try.prog W = .ok (.bool true) W := fun W => struct2_eql 36 (.inl rfl) 1 1 1 1 W
  have h79 : ∀ W : World, (binOp .eql 85 (.agg #[.int .i64 7, .int .i64 9]) (.agg #[.int .i64 7, .int .i64 9])).run Try.prog W = .ok (.bool true) W := fun W => two_eql85 7 9 7 9 W
  have h18 : ∀ W : World, (binOp .eql 85 (.agg #[.int .i64 18, .int .i64 21]) (.agg #[.int .i64 18, .int .i64 21])).run Try.prog W = .ok (.bool true) W := fun W => two_eql85 18 21 18 21 W
  have h20 : ∀ W : World, (binOp .eql 85 (.agg #[.int .i64 20, .int .i64 24]) (.agg #[.int .i64 20, .int .i64 24])).run Try.prog W = .ok (.bool true) W := fun W => two_eql85 20 24 20 24 W
  go_enter Try.func18, Try.ntmps18
  go_wp2_with (first | (go_at_call 44; refine (sides_make _).mono ?_; rintro e w1 ⟨a, b, rfl, hA, hB, hb1⟩) | (go_at_call 19; refine (match_ex a b _ hA hB).mono ?_; rintro e w2 ⟨sa, sc, rfl, hst, hb2⟩; replace hst := three_steps hst; obtain ⟨sb, so, rfl, s0, s1, s2, s3, s4, s5⟩ := hst; have hB2 := below_then hb1 hb2; replace hA := (hA.grown hb2).grown (below_alloc _ (.cells #[.int .i64 1, .int .i64 2, .int .i64 1, .int .i64 0, .int .i64 1, .int .i64 1] 36)); replace hB := (hB.grown hb2).grown (below_alloc _ (.cells #[.int .i64 1, .int .i64 2, .int .i64 1, .int .i64 0, .int .i64 1, .int .i64 1] 36))) | (go_at_call 23; refine (cost_ex a b _ _ _ hA hB (pairs_new _)).mono ?_; rintro e w3 ⟨rfl, hb3⟩; have hb23 := below_then (below_alloc _ _) hb3; have hB3 := below_then hB2 hb23) | (go_at_call 46; refine (slow_make _).mono ?_; rintro e w4 ⟨pa, qa, rfl, hP, hQ, hb4⟩; have hB4 := below_then hB3 hb4) | (go_at_call 38; refine (behind_ex pa qa _ hP hQ).mono ?_; rintro e w5 ⟨ta, tc, rfl, ht, hb5⟩; replace ht := three_pairs ht; obtain ⟨tb, to, rfl, t0, t1, t2, t3, t4, t5⟩ := ht; simp only at t0 t1 t2 t3 t4 t5; have hB5 := below_then hB4 hb5; have hbx := below_then hb23 (below_then hb4 hb5); replace s0 := cell_grown hbx s0; replace s1 := cell_grown hbx s1; replace s2 := cell_grown hbx s2; replace s3 := cell_grown hbx s3; replace s4 := cell_grown hbx s4; replace s5 := cell_grown hbx s5; have gs := lt_of_cell s0; have gt := lt_of_cell t0))
  go_quiet (fail)
  go_wp2_with fail
  go_ret
  exact ⟨rfl, ⟨hB5.os, hB5.tape, hB5.output, hB5.size, hB5.block⟩⟩

end Go.Proofs.Ytohahlnhbppnhaa
