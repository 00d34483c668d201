/- Tongue, the reference: whether a mark is there; how many are missing; the price of a step. -/
import Derived.Test.YtohahlnhbppnhaaBS
namespace Go.Proofs.Ytohahlnhbppnhaa
open Go.RowKit
set_option linter.unusedSimpArgs false
set_option linter.unusedVariables false

theorem hasM_at {U : List Sen} {m : Int} {i : Nat} (hi : i < U.length) (h : m ∈ (U.getD i default).marks) : hasM U m = true := by
  unfold hasM marksOf
  rw [decide_eq_true_eq, List.mem_flatten]
  exact ⟨_, List.mem_map.2 ⟨_, sen_mem hi, rfl⟩, h⟩

theorem hasM_no {U : List Sen} {m : Int} (h : ∀ i, i < U.length → m ∉ (U.getD i default).marks) : hasM U m = false := by
  unfold hasM marksOf
  rw [decide_eq_false_iff_not, List.mem_flatten]
  rintro ⟨l, hl, hm⟩
  obtain ⟨s, hs, rfl⟩ := List.mem_map.1 hl
  obtain ⟨i, hi, rfl⟩ := List.mem_iff_getElem.1 hs
  have := h i hi
  rw [List.getD_eq_getElem?_getD, List.getElem?_eq_getElem hi] at this
  exact this hm

theorem not_mem_getD {M : List Int} {x : Int} (h : ∀ i, i < M.length → M.getD i 0 ≠ x) : x ∉ M := by
  intro hx
  obtain ⟨i, hi, rfl⟩ := List.mem_iff_getElem.1 hx
  have := h i hi
  rw [List.getD_eq_getElem?_getD, List.getElem?_eq_getElem hi] at this
  exact this rfl

theorem mem_getD {M : List Int} {i : Nat} (hi : i < M.length) : M.getD i 0 ∈ M := by
  rw [List.getD_eq_getElem?_getD, List.getElem?_eq_getElem hi]
  exact List.getElem_mem _

set_option maxHeartbeats 1000000 in
theorem refHas_any (U : List Sen) (m : Int) (n cap : Nat) (a : Option Addr) (w : World) (hU : U.length = n) (hn : n ≤ 1000) (kU : ∀ s ∈ U, s.marks.length ≤ 1000) (hS : TextAt w a U) :
    Calls Try.prog 87 #[.slice a n cap, .int .i64 m] w fun e w' => e = .returned (.bool (hasM U m)) ∧ Below w.heap.size w w' := by
  have HY : Hid (∀ i, i < n → m ∈ (U.getD i default).marks → hasM U m = true) := hid (fun i hi => hasM_at (by omega))
  have HN : Hid ((∀ i, i < n → m ∉ (U.getD i default).marks) → hasM U m = false) := hid (fun h => hasM_no (fun i hi => h i (by omega)))
  have KU : Hid (∀ i, i < n → (U.getD i default).marks.length ≤ 1000) := hid (fun i hi => kU _ (sen_mem (by omega)))
  have HU := hid hU
  clear hU kU
  go_enter Try.func87, Try.ntmps87
  go_wp2_with fail
  go_loopw [5, 6] (fun i _ wr => ∃ j : Nat, j ≤ n ∧ i = .int .i64 j ∧ Hid (∀ i, i < j → m ∉ (U.getD i default).marks) ∧ wr = w) (fun i _ _ => n - (intOf i).toNat)
  case atStart => exact ⟨0, Nat.zero_le _, rfl, hid (fun i hi => by omega), rfl⟩
  case round =>
    obtain ⟨j, hj, rfl, HK, rfl⟩ := hrel
    by_cases hlt : j < n
    · have hlt' : (j : Int) < n := by omega
      obtain ⟨b, off, ma, c, ea, e1, -, e3⟩ := hS j (by rw [HU.out]; exact hlt)
      subst ea
      have hk1 := KU.out j hlt
      have HYj : Hid (m ∈ (U.getD j default).marks → hasM U m = true) := hid (HY.out j hlt)
      obtain ⟨M, hM⟩ : ∃ M, (U.getD j default).marks = M := ⟨_, rfl⟩
      rw [hM] at e1 e3 hk1 HYj
      obtain ⟨k, hk⟩ : ∃ k, M.length = k := ⟨_, rfl⟩
      rw [hk] at e1 hk1
      have HM := hid hM
      have HKL := hid hk
      clear hM hk
      go_wp2_with fail
      go_loopw [6] (fun i wr3 => ∃ q : Nat, q ≤ k ∧ i = .int .i64 q ∧ Hid (∀ i, i < q → M.getD i 0 ≠ m) ∧ wr3 = wr) (fun i _ => k - (intOf i).toNat)
      case atStart => exact ⟨0, Nat.zero_le _, rfl, hid (fun i hi => by omega), rfl⟩
      case round =>
        obtain ⟨q, hq, rfl, HQ, rfl⟩ := hrel
        by_cases hlq : q < k
        · have hlq' : (q : Int) < k := by omega
          obtain ⟨b', off', ea, c1⟩ := e3 q (by rw [HKL.out]; exact hlq)
          subst ea
          obtain ⟨x, hx⟩ : ∃ x, M.getD q 0 = x := ⟨_, rfl⟩
          rw [hx] at c1
          have HX := hid hx
          clear hx
          by_cases hxm : x = m
          · have hq1 : (x == m) = true := by simp [hxm]
            have HR : Hid (hasM U m = true) := hid (HYj.out (by rw [← hxm, ← HX.out]; exact mem_getD (by rw [HKL.out]; exact hlq)))
            clear hxm
            go_wp2_with fail
            go_ret
            exact ⟨by rw [HR.out]; rfl, Below.refl _ _⟩
          · have hq1 : (x == m) = false := by simp [hxm]
            have HNE : Hid (x ≠ m) := hid hxm
            clear hxm
            go_wp2_with fail
            go_roundw
            case rel => exact ⟨q + 1, by omega, by go_num, hid (fun i hi => by
              by_cases e : i = q
              · subst e; rw [HX.out]; exact HNE.out
              · exact HQ.out i (by omega)), by trivial⟩
            case measure => simp [intOf]; omega
        · have hqk : q = k := by omega
          subst hqk
          have HV : Hid (m ∉ (U.getD j default).marks) := hid (by rw [HM.out]; exact not_mem_getD (fun i hi => HQ.out i (by rw [← HKL.out]; exact hi)))
          go_wp2_with fail
          go_roundw
          case rel => exact ⟨j + 1, by omega, by go_num, hid (fun i hi => by
            by_cases e : i = j
            · subst e; exact HV.out
            · exact HK.out i (by omega)), by trivial⟩
          case measure => simp [intOf]; omega
    · have hjn : j = n := by omega
      subst hjn
      have HX : Hid (hasM U m = false) := hid (HN.out HK.out)
      go_wp2_with fail
      go_ret
      exact ⟨by rw [HX.out]; rfl, Below.refl _ _⟩

theorem Try.elem22 : Try.prog.elem 22 = 103 := by kernel_rfl

theorem slice22 (a : Option Addr) (n cap l h : Nat) (h1 : l ≤ h) (h2 : h ≤ cap) (W : World) :
    (Instr.slice 22 (.slice a n cap) (some (.int .i64 (l : Int))) (some (.int .i64 (h : Int))) none).run Try.prog W = .ok (.slice (subA a cap l 2) (h - l) (cap - l)) W := by
  rw [run_slice_lh (t := 22) (a := a) (len := n) (cap := cap) (ht := by rw [Try.elem22]; exact Try.underlying22) (kl := .i64) (kh := .i64) (l := (l : Int)) (h := (h : Int)) (h0 := by omega) (h1 := by omega) (h2 := by omega)]
  have hs : (sizeOf (Try.prog.elem 22)).run Try.prog W = .ok 2 W := by rw [Try.elem22]; exact Try.sizeOf103 W
  rw [hs]
  simp only [Result.andThen, sliced, Int.toNat_natCast]
  rfl

theorem slice22h (a : Option Addr) (n cap h : Nat) (h2 : h ≤ cap) (W : World) :
    (Instr.slice 22 (.slice a n cap) none (some (.int .i64 (h : Int))) none).run Try.prog W = .ok (.slice (subA a cap 0 2) h cap) W := by
  rw [run_slice_h (t := 22) (a := a) (len := n) (cap := cap) (ht := by rw [Try.elem22]; exact Try.underlying22) (kh := .i64) (h := (h : Int)) (h0 := by omega) (h2 := by omega)]
  have hs : (sizeOf (Try.prog.elem 22)).run Try.prog W = .ok 2 W := by rw [Try.elem22]; exact Try.sizeOf103 W
  rw [hs]
  simp only [Result.andThen, sliced, Int.toNat_natCast]
  rfl

set_option maxRecDepth 100000 in
set_option maxHeartbeats 1000000 in
theorem missing_any (T U : List Sen) (n cap m mcap : Nat) (a ua : Option Addr) (w : World) (hT : T.length = n) (hn : n ≤ 1000) (kT : ∀ s ∈ T, s.marks.length ≤ 1000) (hc : n ≤ cap) (hS : TextAt w a T) (hU : U.length = m) (hm : m ≤ 1000) (kU : ∀ s ∈ U, s.marks.length ≤ 1000) (hR : TextAt w ua U) :
    Calls Try.prog 63 #[.slice a n cap, .slice ua m mcap] w fun e w' => e = .returned (.int .i64 (missM T U : Nat)) ∧ Below w.heap.size w w' := by
  have hHU := fun x W (hb : Below w.heap.size w W) => refHas_any U x m mcap ua W hU hm kU (hR.grown hb)
  have hHT := fun j x W (hj : j ≤ n) (hb : Below w.heap.size w W) => refHas_any (T.take j) x j cap (subA a cap 0 2) W (by rw [List.length_take]; omega) (by omega) (fun s hs => kT s (List.mem_of_mem_take hs)) (by
    have := (hS.grown hb).part hT hc 0 j (by omega)
    rwa [List.drop_zero] at this)
  have hsl := fun j W (hj : j ≤ n) => slice22h a n cap j (by omega) W
  have KT : Hid (∀ i, i < n → (T.getD i default).marks.length ≤ 1000) := hid (fun i hi => kT _ (sen_mem (by omega)))
  have HT := hid hT
  clear hT kT hU kU hR
  go_enter Try.func63, Try.ntmps63
  go_wp2_with fail
  go_loopw [5, 6, 7] (fun s i _ wr => ∃ j z : Nat, j ≤ n ∧ i = .int .i64 j ∧ s = .int .i64 z ∧ Hid (z = missK T U j) ∧ z ≤ 1000 * j ∧ Below w.heap.size w wr) (fun _ i _ _ => n - (intOf i).toNat)
  case atStart => exact ⟨0, 0, Nat.zero_le _, rfl, rfl, hid rfl, Nat.le_refl _, Below.refl _ _⟩
  case round =>
    obtain ⟨j, z, hj, rfl, rfl, HZ, hz, hB⟩ := hrel
    by_cases hlt : j < n
    · have hlt' : (j : Int) < n := by omega
      have hj0 : (0 : Int) ≤ (j : Int) := by omega
      obtain ⟨b, off, ma, c, ea, e1, -, e3⟩ := (hS.grown hB) j (by rw [HT.out]; exact hlt)
      subst ea
      have hk1 := KT.out j hlt
      have HSU : Hid (missK T U (j + 1) = missK T U j + missRow T U j (T.getD j default).marks.length) := hid (missK_succ T U j)
      have HRU : Hid (∀ q, q < (T.getD j default).marks.length → missRow T U j (q + 1) = missRow T U j q + (if lostM T U j ((T.getD j default).marks.getD q 0) then 1 else 0)) := hid (fun q hq => missRow_succ T U j q hq)
      obtain ⟨M, hM⟩ : ∃ M, (T.getD j default).marks = M := ⟨_, rfl⟩
      rw [hM] at e1 e3 hk1 HSU HRU
      obtain ⟨k, hk⟩ : ∃ k, M.length = k := ⟨_, rfl⟩
      rw [hk] at e1 hk1 HSU HRU
      have HKL := hid hk
      have ge := lt_of_cell e1
      clear hM hk
      go_wp2_with fail
      go_loopw [5, 7] (fun s i wx => ∃ q y : Nat, q ≤ k ∧ i = .int .i64 q ∧ s = .int .i64 ((z + y : Nat) : Int) ∧ Hid (y = missRow T U j q) ∧ y ≤ q ∧ Below wr.heap.size wr wx) (fun _ i _ => k - (intOf i).toNat)
      case atStart => exact ⟨0, 0, Nat.zero_le _, rfl, rfl, hid rfl, Nat.le_refl _, Below.refl _ _⟩
      case round =>
        obtain ⟨q, y, hq, rfl, rfl, HQ, hy, hBx⟩ := hrel
        have c0 := cell_grown hBx e1
        have gf := lt_of_cell c0
        by_cases hlq : q < k
        · have hlq' : (q : Int) < k := by omega
          have hq0 : (0 : Int) ≤ (q : Int) := by omega
          obtain ⟨b', off', ea, c1⟩ := (e3.grown hBx) q (by rw [HKL.out]; exact hlq)
          subst ea
          have HRq := hid (HRU.out q hlq)
          obtain ⟨x, hx⟩ : ∃ x, M.getD q 0 = x := ⟨_, rfl⟩
          rw [hx] at c1 HRq
          have gg := lt_of_cell c1
          have hbw := below_then hB hBx
          have HLO : Hid (lostM T U j x = (!hasM U x && !hasM (T.take j) x)) := hid rfl
          have hA : ∀ p : Over wr, _ := fun p => hHU x p.w (below_then hbw p.h)
          have hBt : ∀ p : Over wr, _ := fun p => hHT j x p.w hj (below_then hbw p.h)
          have hs0 := fun W => hsl j W hj
          obtain ⟨u1, hu1⟩ : ∃ u, hasM U x = u := ⟨_, rfl⟩
          obtain ⟨u2, hu2⟩ : ∃ u, hasM (T.take j) x = u := ⟨_, rfl⟩
          rw [hu1] at hA HLO
          rw [hu2] at hBt HLO
          clear hx hu1 hu2
          have oc : ∀ p : Over wr, p.w.cell? ⟨b, off + j * 2, none⟩ = some (.slice (some ⟨b', off', none⟩) k c) := fun p => p.cell c0
          have od : ∀ p : Over wr, p.w.cell? ⟨b', off' + q, none⟩ = some (.int .i64 x) := fun p => p.cell c1
          cases u1
          · cases u2
            · have HR1 : Hid (missRow T U j (q + 1) = y + 1) := hid (by rw [HRq.out, HLO.out, HQ.out]; rfl)
              go_wp2_with fail
              refine wp_region_over wr (Below.refl _ _) (by kernel_rfl) (by kernel_rfl) ?_
              repeat (go_big_quiet_step (first | (go_at_call_has 87 ua; exact Calls.over_of (hA _)) | (go_at_call 87; exact Calls.over_of (hBt _))))
              refine wpQuiet_nil ?_
              intro wz hw'
              have hbz := over_below hw'
              clear hw' oc od hA hBt hs0
              go_wp2_with fail
              go_roundw
              case rel => exact ⟨q + 1, y + 1, by omega, by go_num, by go_num, hid HR1.out.symm, by omega, below_then hBx hbz⟩
              case measure => simp [intOf]; omega
            · have HR1 : Hid (missRow T U j (q + 1) = y) := hid (by rw [HRq.out, HLO.out, HQ.out]; rfl)
              go_wp2_with fail
              refine wp_region_over wr (Below.refl _ _) (by kernel_rfl) (by kernel_rfl) ?_
              repeat (go_big_quiet_step (first | (go_at_call_has 87 ua; exact Calls.over_of (hA _)) | (go_at_call 87; exact Calls.over_of (hBt _))))
              refine wpQuiet_nil ?_
              intro wz hw'
              have hbz := over_below hw'
              clear hw' oc od hA hBt hs0
              go_wp2_with fail
              go_roundw
              case rel => exact ⟨q + 1, y, by omega, by go_num, by go_num, hid HR1.out.symm, by omega, below_then hBx hbz⟩
              case measure => simp [intOf]; omega
          · have HR1 : Hid (missRow T U j (q + 1) = y) := hid (by rw [HRq.out, HLO.out, HQ.out]; rfl)
            go_wp2_with fail
            refine wp_region_over wr (Below.refl _ _) (by kernel_rfl) (by kernel_rfl) ?_
            repeat (go_big_quiet_step (first | (go_at_call_has 87 ua; exact Calls.over_of (hA _)) | (go_at_call 87; exact Calls.over_of (hBt _))))
            refine wpQuiet_nil ?_
            intro wz hw'
            have hbz := over_below hw'
            clear hw' oc od hA hBt hs0
            go_wp2_with fail
            go_roundw
            case rel => exact ⟨q + 1, y, by omega, by go_num, by go_num, hid HR1.out.symm, by omega, below_then hBx hbz⟩
            case measure => simp [intOf]; omega
        · have hqk : q = k := by omega
          subst hqk
          have HV : Hid (z + y = missK T U (j + 1)) := hid (by rw [HSU.out, HZ.out, HQ.out])
          go_wp2_with fail
          go_roundw
          case rel => exact ⟨j + 1, z + y, by omega, by go_num, by go_num, hid HV.out, by omega, below_then hB hBx⟩
          case measure => simp [intOf]; omega
    · have hjn : j = n := by omega
      subst hjn
      have HX : Hid (missM T U = z) := hid (by unfold missM; rw [HT.out, HZ.out])
      go_wp2_with fail
      go_ret
      exact ⟨by rw [HX.out]; rfl, hB⟩

theorem missM_le (T U : List Sen) (n : Nat) (hT : T.length = n) (kT : ∀ s ∈ T, s.marks.length ≤ 1000) : missM T U ≤ 1000 * n := by
  unfold missM
  rw [hT]
  exact missK_le T U n (fun j hj => kT _ (sen_mem (by omega)))

set_option maxRecDepth 100000 in
set_option maxHeartbeats 1000000 in
theorem refPrice_any (T U : List Sen) (n cap m mcap : Nat) (a ua : Option Addr) (w : World) (hT : T.length = n) (hn : n ≤ 1000) (kT : ∀ s ∈ T, s.marks.length ≤ 1000) (hc : n ≤ cap) (hS : TextAt w a T) (hU : U.length = m) (hm : m ≤ 1000) (kU : ∀ s ∈ U, s.marks.length ≤ 1000) (hmc : m ≤ mcap) (hR : TextAt w ua U) :
    Calls Try.prog 57 #[.slice a n cap, .slice ua m mcap] w fun e w' => e = .returned (.int .i64 (refPrice T U : Nat)) ∧ Below w.heap.size w w' := by
  have h1 := missing_any T U n cap m mcap a ua w hT hn kT hc hS hU hm kU hR
  have h2 := fun W (hb : Below w.heap.size w W) => missing_any U T m mcap n cap ua a W hU hm kU hmc (hR.grown hb) hT hn kT (hS.grown hb)
  have b1 := missM_le T U n hT kT
  have b2 := missM_le U T m hU kU
  have HP : Hid (refPrice T U = 2 * missM T U + 2 * missM U T + (if n = 0 ∨ m = 0 then 3 else 0) + (if n = 2 ∨ m = 2 then 1 else 0)) := hid (by unfold refPrice; rw [hT, hU])
  generalize missM T U = x at h1 b1 HP
  generalize missM U T = y at h2 b2 HP
  have hx : IntKind.i64.wrap (2 * (x : Int)) = 2 * (x : Int) := by rw [IntKind.wrap_i64]; omega
  have hy : IntKind.i64.wrap (2 * (y : Int)) = 2 * (y : Int) := by rw [IntKind.wrap_i64]; omega
  clear hT hU hS hR kT kU
  have q0 : ∀ k : Nat, ((n : Int) == (k : Int)) = decide (n = k) := fun k => by rw [Bool.eq_iff_iff, beq_iff_eq, decide_eq_true_eq]; omega
  have q1 : ∀ k : Nat, ((m : Int) == (k : Int)) = decide (m = k) := fun k => by rw [Bool.eq_iff_iff, beq_iff_eq, decide_eq_true_eq]; omega
  obtain ⟨c0, e0⟩ : ∃ c, decide (n = 0) = c := ⟨_, rfl⟩
  obtain ⟨c1, e1⟩ : ∃ c, decide (m = 0) = c := ⟨_, rfl⟩
  obtain ⟨c2, e2⟩ : ∃ c, decide (n = 2) = c := ⟨_, rfl⟩
  obtain ⟨c3, e3⟩ : ∃ c, decide (m = 2) = c := ⟨_, rfl⟩
  have r0 : ((n : Int) == 0) = c0 := (q0 0).trans e0
  have r1 : ((m : Int) == 0) = c1 := (q1 0).trans e1
  have r2 : ((n : Int) == 2) = c2 := (q0 2).trans e2
  have r3 : ((m : Int) == 2) = c3 := (q1 2).trans e3
  have HP2 : Hid (refPrice T U = 2 * x + 2 * y + (if c0 || c1 then 3 else 0) + (if c2 || c3 then 1 else 0)) := hid (by
    rw [HP.out, ← e0, ← e1, ← e2, ← e3]
    simp)
  clear q0 q1 e0 e1 e2 e3 HP
  obtain ⟨w1, hw1⟩ : ∃ W : World, W = w := ⟨w, rfl⟩
  have hb1 : Below w.heap.size w w1 := by rw [hw1]; exact Below.refl _ _
  clear hw1
  go_enter Try.func57, Try.ntmps57
  go_wp2_with (go_at_call 63; first | (with_reducible refine h1.mono ?_; rintro e w1 ⟨rfl, hb1⟩) | (with_reducible refine (h2 _ hb1).mono ?_; rintro e w2 ⟨rfl, hb2⟩))
  all_goals (
    go_ret
    refine ⟨?_, below_then hb1 hb2⟩
    rw [HP2.out]
    clear h1 h2 HP2
    simp_all)

end Go.Proofs.Ytohahlnhbppnhaa
