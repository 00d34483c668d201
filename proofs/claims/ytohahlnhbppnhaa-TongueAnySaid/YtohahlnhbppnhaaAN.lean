/- Tongue, the reference: a speech, walked. -/
import Derived.Test.YtohahlnhbppnhaaAM
namespace Go.Proofs.Ytohahlnhbppnhaa
open Go.RowKit
set_option linter.unusedSimpArgs false
set_option linter.unusedVariables false

theorem right_false {s : Spoken} {i : Nat} (hi : i < s.starts.length) (h : rightAt s i = false) : valP s = false := by
  rw [valP_right]
  have : (List.range s.starts.length).all (rightAt s) = false := by
    cases hv : (List.range s.starts.length).all (rightAt s)
    · rfl
    · rw [List.all_eq_true] at hv
      rw [hv i (List.mem_range.2 hi)] at h
      cases h
  rw [this]
  simp

set_option maxRecDepth 100000 in
set_option maxHeartbeats 4000000 in
theorem rightSpeech_any (s : Spoken) (ns nc ms mc : Nat) (sa na : Option Addr) (w : World) (h1 : s.starts.length = ns) (h2 : s.needs.length = ms) (hn : ns ≤ 9223372036854775807) (hm : ms ≤ 9223372036854775807) (hS : IntsAt w sa s.starts) (hN : PairsAt w na s.needs) :
    Calls Try.prog 40 #[.agg #[.slice sa ns nc, .int .i64 s.lag, .slice na ms mc]] w fun e w' => e = .returned (.bool (valP s)) ∧ Below w.heap.size w w' := by
  have HVR : Hid (valP s = (decide (ns ≤ 20) && (refRise s.starts && (inB s.lag 1 60 && (decide (ms = ns) && (List.range ns).all (rightAt s)))))) := hid (by rw [← h1, ← h2]; exact valP_right s)
  have HRF : Hid (∀ i, i < ns → rightAt s i = false → valP s = false) := hid (fun i hi h => right_false (by rw [h1]; exact hi) h)
  have hb0 := below_alloc w (.cells #[.slice sa ns nc, .int .i64 s.lag, .slice na ms mc] 73)
  have hw := fun W => in_any s.lag 1 60 W
  obtain ⟨g, hg⟩ : ∃ g, s.lag = g := ⟨_, rfl⟩
  rw [hg] at hb0 HVR
  simp only [hg] at hw ⊢
  clear hg
  have p0 : (w.alloc (.cells #[.slice sa ns nc, .int .i64 g, .slice na ms mc] 73)).cell? ⟨w.heap.size, 0, none⟩ = some (.slice sa ns nc) := by simp
  have p1 : (w.alloc (.cells #[.slice sa ns nc, .int .i64 g, .slice na ms mc] 73)).cell? ⟨w.heap.size, 1, none⟩ = some (.int .i64 g) := by simp
  have p2 : (w.alloc (.cells #[.slice sa ns nc, .int .i64 g, .slice na ms mc] 73)).cell? ⟨w.heap.size, 2, none⟩ = some (.slice na ms mc) := by simp
  have g0 := lt_of_cell p0
  by_cases hle : ns ≤ 20
  rotate_left 1
  · have h1' : (20 : Int) < (ns : Int) := by omega
    have HV : Hid (valP s = false) := hid (by rw [HVR.out]; simp [hle])
    clear h1 h2 hS hN
    go_enter Try.func40, Try.ntmps40
    go_wp2_with fail
    go_ret
    exact ⟨by rw [HV.out]; rfl, hb0⟩
  have h1' : ¬ (20 : Int) < (ns : Int) := by omega
  have hr : ∀ W, Below w.heap.size w W → Calls Try.prog 72 #[.slice sa ns nc] W fun e w' => e = .returned (.bool (refRise s.starts)) ∧ Below W.heap.size W w' := fun W hW => refRise_any s.starts ns nc sa W h1 (by omega) (hS.grown hW)
  obtain ⟨r, hre⟩ : ∃ r, refRise s.starts = r := ⟨_, rfl⟩
  rw [hre] at hr HVR
  clear hre
  cases r
  · have HV : Hid (valP s = false) := hid (by rw [HVR.out]; simp)
    clear h1 h2 hS hN
    go_enter Try.func40, Try.ntmps40
    go_wp2_with ((go_at_call 72; refine (hr _ hb0).mono ?_; rintro e w1 ⟨rfl, hb1⟩; replace p0 := cell_grown hb1 p0; replace p1 := cell_grown hb1 p1; replace p2 := cell_grown hb1 p2; have g1 := lt_of_cell p1))
    go_ret
    exact ⟨by rw [HV.out]; rfl, below_then hb0 hb1⟩
  obtain ⟨r, hre⟩ : ∃ r, inB g 1 60 = r := ⟨_, rfl⟩
  rw [hre] at HVR
  simp only [hre] at hw
  clear hre
  cases r
  · have HV : Hid (valP s = false) := hid (by rw [HVR.out]; simp)
    clear h1 h2 hS hN
    go_enter Try.func40, Try.ntmps40
    go_wp2_with (first | (go_at_call 72; refine (hr _ hb0).mono ?_; rintro e w1 ⟨rfl, hb1⟩; replace p0 := cell_grown hb1 p0; replace p1 := cell_grown hb1 p1; replace p2 := cell_grown hb1 p2; have g1 := lt_of_cell p1) | (go_at_call 41; refine (hw _).mono ?_; rintro e w' ⟨rfl, rfl⟩))
    go_ret
    exact ⟨by rw [HV.out]; rfl, below_then hb0 hb1⟩
  by_cases hmn : ms = ns
  rotate_left 1
  · have hmn' : ¬ (ms : Int) = ns := by omega
    have HV : Hid (valP s = false) := hid (by rw [HVR.out]; simp [hmn])
    clear h1 h2 hS hN hmn
    go_enter Try.func40, Try.ntmps40
    go_wp2_with (first | (go_at_call 72; refine (hr _ hb0).mono ?_; rintro e w1 ⟨rfl, hb1⟩; replace p0 := cell_grown hb1 p0; replace p1 := cell_grown hb1 p1; replace p2 := cell_grown hb1 p2; have g1 := lt_of_cell p1) | (go_at_call 41; refine (hw _).mono ?_; rintro e w' ⟨rfl, rfl⟩))
    go_ret
    exact ⟨by rw [HV.out]; rfl, below_then hb0 hb1⟩
  subst hmn
  have HV2 : Hid (valP s = (List.range ms).all (rightAt s)) := hid (by rw [HVR.out]; simp [hle])
  have H1 := hid h1
  have H2 := hid h2
  clear h1 h2 HVR
  go_enter Try.func40, Try.ntmps40
  go_wp2_with (first | (go_at_call 72; refine (hr _ hb0).mono ?_; rintro e w1 ⟨rfl, hb1⟩; replace p0 := cell_grown hb1 p0; replace p1 := cell_grown hb1 p1; replace p2 := cell_grown hb1 p2; have g1 := lt_of_cell p1) | (go_at_call 41; refine (hw _).mono ?_; rintro e w' ⟨rfl, rfl⟩))
  have hbA := below_then hb0 hb1
  go_loopw [3] (fun i wr => ∃ j : Nat, j ≤ ms ∧ i = .int .i64 j ∧ Hid (∀ i, i < j → rightAt s i = true) ∧ Below w'.heap.size w' wr) (fun i _ => ms - (intOf i).toNat)
  case atStart => exact ⟨0, Nat.zero_le _, rfl, hid (fun i hi => by omega), Below.refl _ _⟩
  case round =>
    obtain ⟨j, hj, rfl, HK, hB⟩ := hrel
    by_cases hlt : j < ms
    · have hlt' : (j : Int) < ms := by omega
      obtain ⟨b1, off1, ea, c0⟩ := hS j (by rw [H1.out]; exact hlt)
      obtain ⟨b2, off2, eb, d0, d1⟩ := hN j (by rw [H2.out]; exact hlt)
      subst ea
      subst eb
      replace c0 := cell_grown hB (cell_grown hbA c0)
      replace d0 := cell_grown hB (cell_grown hbA d0)
      replace d1 := cell_grown hB (cell_grown hbA d1)
      have q0 := cell_grown hB p0
      have q2 := cell_grown hB p2
      have gq := lt_of_cell q0
      have gc := lt_of_cell c0
      have gd := lt_of_cell d0
      have HRA : Hid (rightAt s j = (inB (s.starts.getD j 0) 0 100000 && valR ((s.needs.getD j (0, 0)).1, (s.needs.getD j (0, 0)).2))) := hid rfl
      generalize s.starts.getD j 0 = x at c0 HRA
      generalize (s.needs.getD j (0, 0)).1 = lo at d0 HRA
      generalize (s.needs.getD j (0, 0)).2 = hi at d1 HRA
      have hin : ∀ W, Calls Try.prog 41 #[.int .i64 x, .int .i64 0, .int .i64 100000] W fun e w' => e = .returned (.bool (inB x 0 100000)) ∧ Below W.heap.size W w' := fun W => (in_any x 0 100000 W).mono fun e w' h => by
        obtain ⟨h1, rfl⟩ := h
        exact ⟨h1, Below.refl _ _⟩
      have HNO : Hid (rightAt s j = false → valP s = false) := hid (HRF.out j hlt)
      obtain ⟨r, hre⟩ : ∃ r, inB x 0 100000 = r := ⟨_, rfl⟩
      simp only [hre] at hin
      rw [hre] at HRA
      clear hre
      cases r
      · have HX : Hid (valP s = false) := hid (HNO.out (by rw [HRA.out]; rfl))
        go_wp2_with fail
        have o0 : ∀ p : Over wr, p.w.cell? ⟨w.heap.size, 0, none⟩ = some (.slice (some ⟨b1, off1, none⟩) ms nc) := fun p => p.cell q0
        have o2 : ∀ p : Over wr, p.w.cell? ⟨w.heap.size, 2, none⟩ = some (.slice (some ⟨b2, off2, none⟩) ms mc) := fun p => p.cell q2
        have o3 : ∀ p : Over wr, p.w.cell? ⟨b1, off1 + j, none⟩ = some (.int .i64 x) := fun p => p.cell c0
        have o4 : ∀ p : Over wr, p.w.cell? ⟨b2, off2 + j * 2, none⟩ = some (.int .i64 lo) := fun p => p.cell d0
        have o5 : ∀ p : Over wr, p.w.cell? ⟨b2, off2 + j * 2 + 1, none⟩ = some (.int .i64 hi) := fun p => p.cell d1
        refine wp_region_over wr (Below.refl _ _) (by kernel_rfl) (by kernel_rfl) ?_
        repeat (go_big_quiet_step (first | (go_at_call 41; exact Calls.over_of (hin _))))
        refine wpQuiet_nil ?_
        intro wz hw'
        have hbz := over_below hw'
        clear hw' o0 o2 o3 o4 o5
        go_wp2_with fail
        go_ret
        exact ⟨by rw [HX.out]; rfl, below_then hbA (below_then hB hbz)⟩
      · by_cases k1 : 1 ≤ lo
        · have k1' : ¬ lo < 1 := by omega
          have z1 : decide (lo < 1) = false := decide_eq_false k1'
          by_cases k2 : lo ≤ hi
          · have k2' : ¬ hi < lo := by omega
            have z2 : decide (hi < lo) = false := decide_eq_false k2'
            by_cases k3 : hi ≤ 60
            · have k3' : ¬ 60 < hi := by omega
              have z3 : decide (60 < hi) = false := decide_eq_false k3'
              have HX : Hid (rightAt s j = true) := hid (by rw [HRA.out]; simp [valR, k1, k2, k3])
              clear k1 k2 k3
              go_wp2_with fail
              have o0 : ∀ p : Over wr, p.w.cell? ⟨w.heap.size, 0, none⟩ = some (.slice (some ⟨b1, off1, none⟩) ms nc) := fun p => p.cell q0
              have o2 : ∀ p : Over wr, p.w.cell? ⟨w.heap.size, 2, none⟩ = some (.slice (some ⟨b2, off2, none⟩) ms mc) := fun p => p.cell q2
              have o3 : ∀ p : Over wr, p.w.cell? ⟨b1, off1 + j, none⟩ = some (.int .i64 x) := fun p => p.cell c0
              have o4 : ∀ p : Over wr, p.w.cell? ⟨b2, off2 + j * 2, none⟩ = some (.int .i64 lo) := fun p => p.cell d0
              have o5 : ∀ p : Over wr, p.w.cell? ⟨b2, off2 + j * 2 + 1, none⟩ = some (.int .i64 hi) := fun p => p.cell d1
              refine wp_region_over wr (Below.refl _ _) (by kernel_rfl) (by kernel_rfl) ?_
              repeat (go_big_quiet_step (first | (go_at_call 41; exact Calls.over_of (hin _))))
              refine wpQuiet_nil ?_
              intro wz hw'
              have hbz := over_below hw'
              clear hw' o0 o2 o3 o4 o5
              go_wp2_with fail
              go_roundw
              case rel => exact ⟨j + 1, by omega, by go_num, hid (fun i hi => by
                by_cases e : i = j
                · subst e; exact HX.out
                · exact HK.out i (by omega)), below_then hB hbz⟩
              case measure => simp [intOf]; omega
            · have k3' : 60 < hi := by omega
              have HX : Hid (valP s = false) := hid (HNO.out (by rw [HRA.out]; simp [valR, k3]))
              clear k1 k2 k3
              go_wp2_with fail
              have o0 : ∀ p : Over wr, p.w.cell? ⟨w.heap.size, 0, none⟩ = some (.slice (some ⟨b1, off1, none⟩) ms nc) := fun p => p.cell q0
              have o2 : ∀ p : Over wr, p.w.cell? ⟨w.heap.size, 2, none⟩ = some (.slice (some ⟨b2, off2, none⟩) ms mc) := fun p => p.cell q2
              have o3 : ∀ p : Over wr, p.w.cell? ⟨b1, off1 + j, none⟩ = some (.int .i64 x) := fun p => p.cell c0
              have o4 : ∀ p : Over wr, p.w.cell? ⟨b2, off2 + j * 2, none⟩ = some (.int .i64 lo) := fun p => p.cell d0
              have o5 : ∀ p : Over wr, p.w.cell? ⟨b2, off2 + j * 2 + 1, none⟩ = some (.int .i64 hi) := fun p => p.cell d1
              refine wp_region_over wr (Below.refl _ _) (by kernel_rfl) (by kernel_rfl) ?_
              repeat (go_big_quiet_step (first | (go_at_call 41; exact Calls.over_of (hin _))))
              refine wpQuiet_nil ?_
              intro wz hw'
              have hbz := over_below hw'
              clear hw' o0 o2 o3 o4 o5
              go_wp2_with fail
              go_ret
              exact ⟨by rw [HX.out]; rfl, below_then hbA (below_then hB hbz)⟩
          · have k2' : hi < lo := by omega
            have HX : Hid (valP s = false) := hid (HNO.out (by rw [HRA.out]; simp [valR, k2]))
            clear k1 k2
            go_wp2_with fail
            have o0 : ∀ p : Over wr, p.w.cell? ⟨w.heap.size, 0, none⟩ = some (.slice (some ⟨b1, off1, none⟩) ms nc) := fun p => p.cell q0
            have o2 : ∀ p : Over wr, p.w.cell? ⟨w.heap.size, 2, none⟩ = some (.slice (some ⟨b2, off2, none⟩) ms mc) := fun p => p.cell q2
            have o3 : ∀ p : Over wr, p.w.cell? ⟨b1, off1 + j, none⟩ = some (.int .i64 x) := fun p => p.cell c0
            have o4 : ∀ p : Over wr, p.w.cell? ⟨b2, off2 + j * 2, none⟩ = some (.int .i64 lo) := fun p => p.cell d0
            have o5 : ∀ p : Over wr, p.w.cell? ⟨b2, off2 + j * 2 + 1, none⟩ = some (.int .i64 hi) := fun p => p.cell d1
            refine wp_region_over wr (Below.refl _ _) (by kernel_rfl) (by kernel_rfl) ?_
            repeat (go_big_quiet_step (first | (go_at_call 41; exact Calls.over_of (hin _))))
            refine wpQuiet_nil ?_
            intro wz hw'
            have hbz := over_below hw'
            clear hw' o0 o2 o3 o4 o5
            go_wp2_with fail
            go_ret
            exact ⟨by rw [HX.out]; rfl, below_then hbA (below_then hB hbz)⟩
        · have k1' : lo < 1 := by omega
          have HX : Hid (valP s = false) := hid (HNO.out (by rw [HRA.out]; simp [valR, k1]))
          clear k1
          go_wp2_with fail
          have o0 : ∀ p : Over wr, p.w.cell? ⟨w.heap.size, 0, none⟩ = some (.slice (some ⟨b1, off1, none⟩) ms nc) := fun p => p.cell q0
          have o2 : ∀ p : Over wr, p.w.cell? ⟨w.heap.size, 2, none⟩ = some (.slice (some ⟨b2, off2, none⟩) ms mc) := fun p => p.cell q2
          have o3 : ∀ p : Over wr, p.w.cell? ⟨b1, off1 + j, none⟩ = some (.int .i64 x) := fun p => p.cell c0
          have o4 : ∀ p : Over wr, p.w.cell? ⟨b2, off2 + j * 2, none⟩ = some (.int .i64 lo) := fun p => p.cell d0
          have o5 : ∀ p : Over wr, p.w.cell? ⟨b2, off2 + j * 2 + 1, none⟩ = some (.int .i64 hi) := fun p => p.cell d1
          refine wp_region_over wr (Below.refl _ _) (by kernel_rfl) (by kernel_rfl) ?_
          repeat (go_big_quiet_step (first | (go_at_call 41; exact Calls.over_of (hin _))))
          refine wpQuiet_nil ?_
          intro wz hw'
          have hbz := over_below hw'
          clear hw' o0 o2 o3 o4 o5
          go_wp2_with fail
          go_ret
          exact ⟨by rw [HX.out]; rfl, below_then hbA (below_then hB hbz)⟩
    · have hjn : j = ms := by omega
      have HX : Hid (valP s = true) := hid (by
        rw [HV2.out, List.all_eq_true]
        exact fun i hi => HK.out i (by have := List.mem_range.1 hi; omega))
      have hlt' : ¬ (j : Int) < ms := by omega
      have q0 := cell_grown hB p0
      have gq := lt_of_cell q0
      go_wp2_with fail
      go_ret
      exact ⟨by rw [HX.out]; rfl, below_then hbA hB⟩

end Go.Proofs.Ytohahlnhbppnhaa
