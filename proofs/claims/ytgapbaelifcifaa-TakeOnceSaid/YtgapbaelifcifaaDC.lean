/- The law TakeOnce: its walk. -/
import Derived.Test.YtgapbaelifcifaaCN
import Derived.Test.YtgapbaelifcifaaDB
import Derived.Test.YtgapbaelifcifaaMB
namespace Go.Proofs.Ytgapbaelifcifaa
open Go.RowKit

set_option maxRecDepth 100000 in
set_option maxHeartbeats 4000000 in
theorem takeOnce_any (L : List (Int × Int)) (len long short word : Int) (n cap : Nat) (a : Option Addr) (w : World)
    (hL : L.length = n) (hn : n ≤ maxLen) (hS : Spans w a L) (hw : 0 ≤ word ∧ word ≤ 65535) :
    Calls Try.prog 9 #[.agg #[.int .i64 len, .slice a n cap, .int .i64 long, .int .i64 short], .int .u16 word] w fun e w' => e = .returned (.bool true) ∧ Below w.heap.size w w' := by
  have hn' := hn
  unfold maxLen at hn'
  have HL := hid hL
  clear hL
  go_enter Try.func9, Try.ntmps9
  obtain ⟨W0, hW0⟩ : ∃ W0, W0 = w.alloc (.cells #[.int .i64 len, .slice a n cap, .int .i64 long, .int .i64 short] 24) := ⟨_, rfl⟩
  have hB0 : Below w.heap.size w W0 := by rw [hW0]; exact (Below.refl _ w).alloc (Nat.le_refl _) _
  have c0 : W0.cell? ⟨w.heap.size, 0, none⟩ = some (.int .i64 len) := by rw [hW0]; simp
  have c1 : W0.cell? ⟨w.heap.size, 1, none⟩ = some (.slice a n cap) := by rw [hW0]; simp
  have c2 : W0.cell? ⟨w.heap.size, 2, none⟩ = some (.int .i64 long) := by rw [hW0]; simp
  have c3 : W0.cell? ⟨w.heap.size, 3, none⟩ = some (.int .i64 short) := by rw [hW0]; simp
  have z0 : W0.heap.size = w.heap.size + 1 := by rw [hW0]; simp
  have hS0 := hS.grown hB0
  by_cases h60 : 60 < n
  · have h60i : (60 : Int) < (n : Int) := by omega
    go_wp2_with fail
    rw [← hW0]
    refine (awake_any W0).mono ?_
    rintro e w' ⟨rfl, hb⟩
    go_wp2
    go_ret
    exact ⟨rfl, hB0.trans (hb.mono (by omega))⟩
  · have h60i : ¬ (60 : Int) < (n : Int) := by omega
    go_wp2_with fail
    rw [← hW0]
    refine (fault_any L len long short n cap a W0 HL.out (by omega) hS0).mono ?_
    rintro e w1 ⟨rfl, hb1⟩
    have z1 := hb1.size
    replace c0 := cell_grown hb1 c0
    replace c1 := cell_grown hb1 c1
    replace c2 := cell_grown hb1 c2
    replace c3 := cell_grown hb1 c3
    replace hS0 := hS0.grown hb1
    have hB1 := hB0.trans (hb1.mono (by omega))
    clear hb1 hB0 hW0
    rcases sitErr_cases len long short L with h0 | h0 | h0
    · obtain ⟨hok, h40⟩ := sitErr_zero h0
      have HE0 := hid h0
      rw [h0]
      have HOK := hid hok
      have hlen := (sitOk_parts hok).1
      clear h0 hok
      have hl0 : len ≠ 0 := by omega
      have hs0 : 0 ≤ word % len := Int.emod_nonneg _ hl0
      have hs1 : word % len < len := Int.emod_lt_of_pos _ (by omega)
      go_wp2_with fail
      refine (sitting_any L len long short n cap a w1 HL.out (by omega) hS0).mono ?_
      rintro e w2 ⟨ra, rc, rfl, hSr, hb2⟩
      obtain ⟨sec, hsec⟩ : ∃ s, word % len = s := ⟨_, rfl⟩
      rw [hsec] at hs0 hs1 ⊢
      clear hsec
      have z2 := hb2.size
      replace c0 := cell_grown hb2 c0
      replace c1 := cell_grown hb2 c1
      replace c2 := cell_grown hb2 c2
      replace c3 := cell_grown hb2 c3
      replace hS0 := hS0.grown hb2
      have hB2 := hB1.trans (hb2.mono (by omega))
      clear hb2 hB1
      go_wp2_with fail
      refine (takes_any L len long short n rc ra w2 HL.out hn hSr).mono ?_
      intro e w3 h
      rcases cutPost_cases h with ⟨h1, _⟩ | ⟨_, h2, _⟩ | ⟨ta, tc, m, hm, _, hm40, hb3, rfl, hT, _⟩
      · rw [HOK.out] at h1; simp at h1
      · omega
      · have z3 := hb3.size
        replace c0 := cell_grown hb3 c0
        replace c1 := cell_grown hb3 c1
        replace c2 := cell_grown hb3 c2
        replace c3 := cell_grown hb3 c3
        replace hS0 := hS0.grown hb3
        have hB3 := hB2.trans (hb3.mono (by omega))
        have HM := hid hm
        clear hb3 hB2 h hm h40 hSr
        go_wp2_with fail
        refine (sitting_any L len long short n cap a w3 HL.out (by omega) hS0).mono ?_
        rintro e w4 ⟨rb, rd, rfl, hSr, hb4⟩
        have z4 := hb4.size
        replace c0 := cell_grown hb4 c0
        replace c1 := cell_grown hb4 c1
        replace c2 := cell_grown hb4 c2
        replace c3 := cell_grown hb4 c3
        replace hS0 := hS0.grown hb4
        replace hT := hT.grown hb4
        have hB4 := hB3.trans (hb4.mono (by omega))
        clear hb4 hB3
        go_wp2_with fail
        refine (atT_any L len long short sec n rd rb w4 HL.out hn hSr).mono ?_
        obtain ⟨r1, hr1⟩ : ∃ r, (atM len long short sec L).1 = r := ⟨_, rfl⟩
        obtain ⟨r2, hr2⟩ : ∃ r, (atM len long short sec L).2 = r := ⟨_, rfl⟩
        rw [hr1, hr2]
        have HR1 := hid hr1
        have HR2 := hid hr2
        clear hr1 hr2
        rintro e w5 ⟨rfl, hb5⟩
        have z5 := hb5.size
        replace c0 := cell_grown hb5 c0
        replace c1 := cell_grown hb5 c1
        replace c2 := cell_grown hb5 c2
        replace c3 := cell_grown hb5 c3
        replace hS0 := hS0.grown hb5
        replace hT := hT.grown hb5
        have hB5 := hB4.trans (hb5.mono (by omega))
        clear hb5 hB4 hSr
        have hAll := hid (takes_all HOK.out)
        obtain ⟨T, hTT⟩ : ∃ T, takesOf len long short L = T := ⟨_, rfl⟩
        have HTT := hid hTT
        rw [hTT] at hT HM hAll
        clear hTT
        have hm40i : ¬ (40 : Int) < (m : Int) := by omega
        go_wp2_with fail
        go_loopw [10, 11, 12, 13] (fun mm ww ss i wr => ∃ k : Nat, k ≤ m ∧ i = .int .i64 k ∧ (∃ q v : Nat, mm = .int .i64 q ∧ ww = .int .i64 v ∧ ss = .int .i64 (total (T.take k)) ∧ q ≤ k ∧ v ≤ k ∧ Hid (hits sec (T.take k) = q ∧ (0 < q → v < T.length ∧ (T.getD v (0, 0)).1 ≤ sec ∧ sec < (T.getD v (0, 0)).2))) ∧ Below w5.heap.size w5 wr) (fun _ _ _ i _ => m - (intOf i).toNat)
        case atStart => exact ⟨0, Nat.zero_le _, rfl, ⟨0, 0, rfl, rfl, rfl, Nat.le_refl _, Nat.le_refl _, hid ⟨rfl, fun h => absurd h (by omega)⟩⟩, Below.refl _ _⟩
        case round =>
          obtain ⟨k, hk, rfl, ⟨q, v, rfl, rfl, rfl, hqk, hvk, hq⟩, hB⟩ := hrel
          have zr := hB.size
          have htk := hAll.out.2.1.total_take k
          obtain ⟨s, hs⟩ : ∃ s, total (T.take k) = s := ⟨_, rfl⟩
          rw [hs] at htk ⊢
          have HSUM := hid hs
          clear hs
          by_cases hlt : k < m
          · have hkT : k < T.length := by rw [HM.out]; exact hlt
            obtain ⟨b, off, rfl, e1, e2⟩ := hT k hkT
            have hx := hAll.out.2.1.at hkT
            have hprev : 0 < k → (T.getD (k - 1) (0, 0)).2 ≤ (T.getD k (0, 0)).1 ∧ w5.cell? ⟨b, off + (k - 1) * 2 + 1, none⟩ = some (.int .i64 (T.getD (k - 1) (0, 0)).2) := fun hk0 => by
              obtain ⟨k', rfl⟩ : ∃ k', k = k' + 1 := ⟨k - 1, by omega⟩
              obtain ⟨b', off', eb, _, e4⟩ := hT k' (by omega)
              simp only [Option.some.injEq, Addr.mk.injEq, and_true] at eb
              obtain ⟨rfl, rfl⟩ := eb
              exact ⟨hAll.out.2.1.next hkT, e4⟩
            have HP := hid hprev
            have HKT := hid hkT
            clear hprev hkT
            obtain ⟨x, hxx⟩ : ∃ x, T.getD k (0, 0) = x := ⟨_, rfl⟩
            have HXX := hid hxx
            rw [hxx] at hx e1 e2 HP
            clear hxx
            obtain ⟨f, t⟩ := x
            simp only at hx e1 e2
            obtain ⟨hx1, hx2, hx3⟩ := hx
            have hkk : (k : Int) < m := by omega
            have f1 := cell_grown hB e1
            have f2 := cell_grown hB e2
            have y0 := cell_grown hB c0
            have gw := lt_of_cell y0
            have gb := lt_of_cell f1
            have HS1 : Hid (total (T.take (k + 1)) = s + (t - f)) := hid (by rw [total_step HKT.out, HSUM.out, HXX.out])
            have d1 : decide (f < 0) = false := by simp; omega
            have d2 : decide (t ≤ f) = false := by simp; omega
            have d3 : decide (len < t) = false := by simp; omega
            by_cases hk0 : k = 0
            · subst hk0
              simp only [Nat.zero_mul, Nat.add_zero] at f1 f2 e1 e2
              by_cases g1 : f ≤ sec
              · by_cases g2 : sec < t
                · have HQ : Hid (hits sec (T.take (0 + 1)) = q + 1 ∧ (0 < q + 1 → 0 < T.length ∧ (T.getD 0 (0, 0)).1 ≤ sec ∧ sec < (T.getD 0 (0, 0)).2)) := hid ⟨by rw [hits_step HKT.out, hq.out.1, HXX.out, if_pos ⟨g1, g2⟩], fun _ => ⟨HKT.out, by rw [HXX.out]; exact g1, by rw [HXX.out]; exact g2⟩⟩
                  go_wp2_with fail
                  go_big_quiet (fail)
                  go_wp2_with fail
                  go_big_quiet (fail)
                  go_wp2_with fail
                  go_roundw
                  case rel => exact ⟨0 + 1, by omega, by go_num, ⟨q + 1, 0, by go_num, by go_num, by rw [HS1.out]; try go_num, by omega, by omega, HQ⟩, by first | exact below_drewN hB _ | exact below_drewN (below_drewN hB _) _⟩
                  case measure => simp [intOf]; omega
                · have HQ : Hid (hits sec (T.take (0 + 1)) = q ∧ (0 < q → v < T.length ∧ (T.getD v (0, 0)).1 ≤ sec ∧ sec < (T.getD v (0, 0)).2)) := hid ⟨by rw [hits_step HKT.out, hq.out.1, HXX.out, if_neg (fun h => g2 h.2)]; rfl, hq.out.2⟩
                  go_wp2_with fail
                  go_big_quiet (fail)
                  go_wp2_with fail
                  go_big_quiet (fail)
                  go_wp2_with fail
                  go_roundw
                  case rel => exact ⟨0 + 1, by omega, by go_num, ⟨q, v, by go_num, by go_num, by rw [HS1.out]; try go_num, by omega, by omega, HQ⟩, by first | exact below_drewN hB _ | exact below_drewN (below_drewN hB _) _⟩
                  case measure => simp [intOf]; omega
              · have HQ : Hid (hits sec (T.take (0 + 1)) = q ∧ (0 < q → v < T.length ∧ (T.getD v (0, 0)).1 ≤ sec ∧ sec < (T.getD v (0, 0)).2)) := hid ⟨by rw [hits_step HKT.out, hq.out.1, HXX.out, if_neg (fun h => g1 h.1)]; rfl, hq.out.2⟩
                go_wp2_with fail
                go_big_quiet (fail)
                go_wp2_with fail
                go_big_quiet (fail)
                go_wp2_with fail
                go_roundw
                case rel => exact ⟨0 + 1, by omega, by go_num, ⟨q, v, by go_num, by go_num, by rw [HS1.out]; try go_num, by omega, by omega, HQ⟩, by first | exact below_drewN hB _ | exact below_drewN (below_drewN hB _) _⟩
                case measure => simp [intOf]; omega
            · obtain ⟨hp1, hp2⟩ := HP.out (by omega)
              obtain ⟨pt, hpt⟩ : ∃ x, (T.getD (k - 1) (0, 0)).2 = x := ⟨_, rfl⟩
              rw [hpt] at hp1 hp2
              simp only at hp1
              clear hpt
              have f3 := cell_grown hB hp2
              have d5 : decide (f < pt) = false := by simp; omega
              have hk1 : (0 : Int) < (k : Int) := by omega
              have hk2 : 0 < k := by omega
              have hk3 : decide ((0 : Int) < (k : Int)) = true := by simpa using hk1
              have hk4 : decide (0 < k) = true := by simpa using hk2
              have hkp : ((k - 1 : Nat) : Int) = (k : Int) - 1 := by omega
              by_cases g1 : f ≤ sec
              · by_cases g2 : sec < t
                · have HQ : Hid (hits sec (T.take (k + 1)) = q + 1 ∧ (0 < q + 1 → k < T.length ∧ (T.getD k (0, 0)).1 ≤ sec ∧ sec < (T.getD k (0, 0)).2)) := hid ⟨by rw [hits_step HKT.out, hq.out.1, HXX.out, if_pos ⟨g1, g2⟩], fun _ => ⟨HKT.out, by rw [HXX.out]; exact g1, by rw [HXX.out]; exact g2⟩⟩
                  go_wp2_with fail
                  go_big_quiet (fail)
                  go_wp2_with fail
                  go_big_quiet (fail)
                  go_wp2_with fail
                  go_roundw
                  case rel => exact ⟨k + 1, by omega, by go_num, ⟨q + 1, k, by go_num, by go_num, by rw [HS1.out]; try go_num, by omega, by omega, HQ⟩, by first | exact below_drewN hB _ | exact below_drewN (below_drewN hB _) _⟩
                  case measure => simp [intOf]; omega
                · have HQ : Hid (hits sec (T.take (k + 1)) = q ∧ (0 < q → v < T.length ∧ (T.getD v (0, 0)).1 ≤ sec ∧ sec < (T.getD v (0, 0)).2)) := hid ⟨by rw [hits_step HKT.out, hq.out.1, HXX.out, if_neg (fun h => g2 h.2)]; rfl, hq.out.2⟩
                  go_wp2_with fail
                  go_big_quiet (fail)
                  go_wp2_with fail
                  go_big_quiet (fail)
                  go_wp2_with fail
                  go_roundw
                  case rel => exact ⟨k + 1, by omega, by go_num, ⟨q, v, by go_num, by go_num, by rw [HS1.out]; try go_num, by omega, by omega, HQ⟩, by first | exact below_drewN hB _ | exact below_drewN (below_drewN hB _) _⟩
                  case measure => simp [intOf]; omega
              · have HQ : Hid (hits sec (T.take (k + 1)) = q ∧ (0 < q → v < T.length ∧ (T.getD v (0, 0)).1 ≤ sec ∧ sec < (T.getD v (0, 0)).2)) := hid ⟨by rw [hits_step HKT.out, hq.out.1, HXX.out, if_neg (fun h => g1 h.1)]; rfl, hq.out.2⟩
                go_wp2_with fail
                go_big_quiet (fail)
                go_wp2_with fail
                go_big_quiet (fail)
                go_wp2_with fail
                go_roundw
                case rel => exact ⟨k + 1, by omega, by go_num, ⟨q, v, by go_num, by go_num, by rw [HS1.out]; try go_num, by omega, by omega, HQ⟩, by first | exact below_drewN hB _ | exact below_drewN (below_drewN hB _) _⟩
                case measure => simp [intOf]; omega
          · have hkm : k = T.length := by rw [HM.out]; omega
            have HQ : Hid (hits sec T = q ∧ (0 < q → v < T.length ∧ (T.getD v (0, 0)).1 ≤ sec ∧ sec < (T.getD v (0, 0)).2)) := hid (by have := hq.out; rwa [hkm, List.take_length] at this)
            have HSUM2 : Hid (total T = s) := hid (by have := HSUM.out; rwa [hkm, List.take_length] at this)
            clear hq HSUM hkm
            have y0 := cell_grown hB c0
            have y1 := cell_grown hB c1
            have y2 := cell_grown hB c2
            have y3 := cell_grown hB c3
            have hSr := hS0.grown hB
            have hB6 := hB5.trans (hB.mono (by omega))
            have zw : w.heap.size < wr.heap.size := lt_of_cell y0
            clear hB
            go_wp2_with fail
            go_loopw [12, 14] (fun ss i wz => ∃ j : Nat, j ≤ n ∧ i = .int .i64 j ∧ ss = .int .i64 (s + total (L.take j)) ∧ Below wr.heap.size wr wz) (fun _ i _ => n - (intOf i).toNat)
            case atStart => exact ⟨0, Nat.zero_le _, rfl, by rw [List.take_zero, total_nil]; try go_num, Below.refl _ _⟩
            case round =>
              obtain ⟨j, hj, rfl, rfl, hB⟩ := hrel
              have zr2 := hB.size
              have htk2 := hAll.out.1.total_take j
              obtain ⟨s2, hs2⟩ : ∃ s2, total (L.take j) = s2 := ⟨_, rfl⟩
              rw [hs2] at htk2 ⊢
              have HS2 := hid hs2
              clear hs2
              by_cases hlt2 : j < n
              · have hjL : j < L.length := by rw [HL.out]; exact hlt2
                obtain ⟨b, off, rfl, e1, e2⟩ := hSr j hjL
                have hx := hAll.out.1.at hjL
                have HS3 : Hid (total (L.take (j + 1)) = s2 + ((L.getD j (0, 0)).2 - (L.getD j (0, 0)).1)) := hid (by rw [total_step hjL, HS2.out])
                clear hjL
                obtain ⟨x, hxx⟩ : ∃ x, L.getD j (0, 0) = x := ⟨_, rfl⟩
                rw [hxx] at hx e1 e2 HS3
                clear hxx
                obtain ⟨f, t⟩ := x
                simp only at hx e1 e2 HS3
                obtain ⟨hx1, hx2, hx3⟩ := hx
                have hkk : (j : Int) < n := by omega
                have f1 := cell_grown hB e1
                have f2 := cell_grown hB e2
                have x0 := cell_grown hB y0
                have x1 := cell_grown hB y1
                have gw := lt_of_cell x0
                have gb := lt_of_cell f1
                go_wp2_with fail
                go_big_quiet (fail)
                go_wp2_with fail
                go_roundw
                case rel => exact ⟨j + 1, by omega, by go_num, by rw [HS3.out, ← Int.add_assoc]; try go_num, below_drewN hB _⟩
                case measure => simp [intOf]; omega
              · have hjn : j = L.length := by rw [HL.out]; omega
                have hsum : s + s2 = len := by
                  have h1 := hAll.out.2.2.1
                  have h2 := HS2.out
                  rw [hjn, List.take_length] at h2
                  have h3 := HSUM2.out
                  omega
                have x0 := cell_grown hB y0
                have x1 := cell_grown hB y1
                have x2 := cell_grown hB y2
                have x3 := cell_grown hB y3
                have hSz := hSr.grown hB
                have hB7 := hB6.trans (hB.mono (by omega))
                rw [hsum]
                have hparts := sitOk_parts HOK.out
                have HBD : Hid (∀ p ∈ L, 0 ≤ p.2 ∧ p.2 ≤ 36000) := hid (fun p hp => by have := pausesOk_mem hparts.2.2.2 p hp; omega)
                clear hparts
                have HIN : Hid (inB sec 0 (len - 1) = true) := hid (by simp [inB]; omega)
                have hb0 := hAll.out.2.2.2 sec hs0 hs1
                rw [HQ.out.1] at hb0
                go_wp2_with fail
                refine (paused_any L len long short sec n cap a _ HL.out hn HBD.out hSz).mono ?_
                rintro e w7 ⟨rfl, hb7⟩
                have hB8 := hB7.trans (hb7.mono (by have := hB.size; omega))
                clear hb7
                cases hp : pausedM L sec
                · rw [hp] at hb0
                  have HP1 := hid hp
                  have hq1 : q = 1 := by simpa using hb0
                  subst hq1
                  have e2 : r2 = 0 := by rw [← HR2.out]; unfold atM; rw [HE0.out, if_pos rfl, if_pos HIN.out, pausedP_eq L 0 hAll.out.1, HP1.out]; rfl
                  have e1 : r1 = (v : Int) := by
                    rw [← HR1.out]; unfold atM; rw [HE0.out, if_pos rfl, if_pos HIN.out, pausedP_eq L 0 hAll.out.1, HP1.out, if_neg (by simp), HTT.out]
                    obtain ⟨i1, i2, i3⟩ := HQ.out.2 (by omega)
                    rw [begun_of_hit hAll.out.2.1 i1 i2 i3]
                    simp only
                    omega
                  subst e1 e2
                  clear hb0 hp
                  go_wp2_with fail
                  refine (awake_any w7).mono ?_
                  rintro e w' ⟨rfl, hb⟩
                  go_wp2
                  go_ret
                  exact ⟨rfl, hB8.trans (hb.mono (by have := hB8.size; omega))⟩
                · rw [hp] at hb0
                  have HP1 := hid hp
                  have hq1 : q = 0 := by simpa using hb0
                  subst hq1
                  have e2 : r2 = 7 := by rw [← HR2.out]; unfold atM; rw [HE0.out, if_pos rfl, if_pos HIN.out, pausedP_eq L 0 hAll.out.1, HP1.out]; rfl
                  subst e2
                  clear hb0 hp
                  go_wp2_with fail
                  refine (awake_any w7).mono ?_
                  rintro e w' ⟨rfl, hb⟩
                  go_wp2
                  go_ret
                  exact ⟨rfl, hB8.trans (hb.mono (by have := hB8.size; omega))⟩
    all_goals
      rw [h0]
      go_wp2_with fail
      refine (awake_any w1).mono ?_
      rintro e w' ⟨rfl, hb⟩
      go_wp2
      go_ret
      exact ⟨rfl, hB1.trans (hb.mono (by omega))⟩

end Go.Proofs.Ytgapbaelifcifaa
