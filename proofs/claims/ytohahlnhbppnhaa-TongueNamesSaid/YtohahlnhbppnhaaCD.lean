/- Tongue, the laws: the best match, against the reference. -/
import Derived.Test.YtohahlnhbppnhaaCC
namespace Go.Proofs.Ytohahlnhbppnhaa
open Go.RowKit
set_option linter.unusedSimpArgs false
set_option linter.unusedVariables false

theorem pairsI_get (l : List (Nat × Nat)) (i : Nat) : (pairsI l).getD i (0, 0) = (((l.getD i (0, 0)).1 : Int), ((l.getD i (0, 0)).2 : Int)) := by
  unfold pairsI
  rw [List.getD_eq_getElem?_getD, List.getElem?_map, List.getD_eq_getElem?_getD]
  cases l[i]? <;> rfl

set_option maxRecDepth 100000 in
set_option maxHeartbeats 2000000 in
theorem matchesLaw_any (L R : List Sen) (n m nc mc : Nat) (la ra : Option Addr) (w : World) (hL : L.length = n) (hR : R.length = m) (hnc : n ≤ nc) (hmc : m ≤ mc) (hn : n ≤ 9223372036854775807) (hm : m ≤ 9223372036854775807) (hS : TextAt w la L) (hT : TextAt w ra R) :
    Calls Try.prog 3 #[.slice la n nc, .slice ra m mc] w fun e w' => e = .returned (.bool true) ∧ Below w.heap.size w w' := by
  have hfw := few_any L R n m nc mc la ra w hL hR hn hm hS hT
  have hwk := fun W => wakes_any W
  obtain ⟨r, hre⟩ : ∃ r, fewM L R = r := ⟨_, rfl⟩
  rw [hre] at hfw
  have hb : Below w.heap.size w w := Below.refl _ _
  cases r
  · clear hS hT hL hR hre
    go_enter Try.func3, Try.ntmps3
    go_wp2_with (first | (go_at_call 16; refine hfw.mono ?_; rintro e wq ⟨rfl, rfl⟩) | (go_at_call 18; refine (hwk _).mono ?_; rintro e wq ⟨rfl, hq⟩; replace hb := below_then hb hq; clear hq))
    go_ret
    exact ⟨rfl, hb⟩
  obtain ⟨k1, k2, k3, k4⟩ := few_parts hre
  have sL := fine_small ⟨k1, k3⟩
  have sR := fine_small ⟨k2, k4⟩
  have q3 : ∀ s ∈ L, s.marks.length ≤ 1000 := fun s hs => by have := k3 s hs; omega
  have q4 : ∀ s ∈ R, s.marks.length ≤ 1000 := fun s hs => by have := k4 s hs; omega
  have hFA := fun W hS hT => lawFault_any L R n m nc mc la ra W hL hR (by omega) (by omega) q3 q4 hS hT
  have hTL := fun W hS => text_any L n nc la W hL (by omega) q3 hS
  have hTR := fun W hT => text_any R m mc ra W hR (by omega) q4 hT
  have hMO := fun a ac b bc W hA hB h1 h2 => match_any L R n ac m bc a b W hL hR sL sR hA hB h1 h2
  have hSx := hS
  have hTx := hT
  by_cases hz : faultM L R = 0
  case neg =>
    have hMC : ∀ a ac b bc W, TextAt W a L → TextAt W b R → n ≤ ac → m ≤ bc → Calls Try.prog 19 #[.slice a n ac, .slice b m bc] W fun e w' => e = .returned (.tuple #[.slice none 0 0, .int .i64 0, .int .i64 (faultM L R)]) ∧ Below W.heap.size W w' := fun a ac b bc W hA hB h1 h2 => by
      refine (hMO a ac b bc W hA hB h1 h2).mono ?_
      rintro e w' ⟨hb, ⟨-, rfl⟩ | ⟨h, -⟩⟩
      · exact ⟨rfl, hb⟩
      · exact absurd h hz
    generalize faultM L R = z at hFA hMC hz
    have z0 : (z == 0) = false := by simpa using hz
    have z1 : (z != 0) = true := by simpa using hz
    have z2 : (z == z) = true := by simp
    have z3 : ((0 : Int) == z) = false := by simp; omega
    clear k1 k2 k3 k4 sL sR q3 q4 hL hR hS hT hre hMO hz
    go_enter Try.func3, Try.ntmps3
    go_wp2_with (first | (go_at_call 16; refine hfw.mono ?_; rintro e wq ⟨rfl, rfl⟩) | (go_at_call 17; refine (hFA _ hSx hTx).mono ?_; rintro e wq ⟨rfl, hq⟩; (try replace hSS := hSS.grown hq); replace hSx := hSx.grown hq; replace hTx := hTx.grown hq; replace hb := below_then hb hq; clear hq) | (go_at_call_has 20 la; refine (hTL _ hSx).mono ?_; rintro e wq ⟨a, ac, rfl, hA, hAc, hq⟩; replace hSx := hSx.grown hq; replace hTx := hTx.grown hq; replace hb := below_then hb hq; clear hq) | (go_at_call_has 20 ra; refine (hTR _ hTx).mono ?_; rintro e wq ⟨b, bc, rfl, hB, hBc, hq⟩; replace hA := hA.grown hq; replace hSx := hSx.grown hq; replace hTx := hTx.grown hq; replace hb := below_then hb hq; clear hq) | (go_at_call 19; refine (hMC a ac b bc _ hA hB hAc hBc).mono ?_; rintro e wq ⟨rfl, hq⟩; clear hA hB; replace hSx := hSx.grown hq; replace hTx := hTx.grown hq; replace hb := below_then hb hq; clear hq) | (go_at_call 18; refine (hwk _).mono ?_; rintro e wq ⟨rfl, hq⟩; replace hb := below_then hb hq; clear hq))
    go_ret
    exact ⟨rfl, hb⟩
  rw [hz] at hFA
  have n22 : n ≤ 22 := by omega
  have m22 : m ≤ 22 := by omega
  by_cases hbig : 8 < n ∨ 8 < m
  · clear k1 k2 k3 k4 sL sR q3 q4 hL hR hS hT hre hMO hz hTL hTR
    rcases (by omega : (8 < n) ∨ (¬ 8 < n ∧ 8 < m)) with h8 | ⟨h8, h9⟩
    · have c1 : (8 : Int) < (n : Int) := by omega
      clear hbig
      go_enter Try.func3, Try.ntmps3
      go_wp2_with (first | (go_at_call 16; refine hfw.mono ?_; rintro e wq ⟨rfl, rfl⟩) | (go_at_call 17; refine (hFA _ hSx hTx).mono ?_; rintro e wq ⟨rfl, hq⟩; (try replace hSS := hSS.grown hq); replace hSx := hSx.grown hq; replace hTx := hTx.grown hq; replace hb := below_then hb hq; clear hq) | (go_at_call 18; refine (hwk _).mono ?_; rintro e wq ⟨rfl, hq⟩; replace hb := below_then hb hq; clear hq))
      go_ret
      exact ⟨rfl, hb⟩
    · have c1 : ¬ (8 : Int) < (n : Int) := by omega
      have c2 : (8 : Int) < (m : Int) := by omega
      clear hbig
      go_enter Try.func3, Try.ntmps3
      go_wp2_with (first | (go_at_call 16; refine hfw.mono ?_; rintro e wq ⟨rfl, rfl⟩) | (go_at_call 17; refine (hFA _ hSx hTx).mono ?_; rintro e wq ⟨rfl, hq⟩; (try replace hSS := hSS.grown hq); replace hSx := hSx.grown hq; replace hTx := hTx.grown hq; replace hb := below_then hb hq; clear hq) | (go_at_call 18; refine (hwk _).mono ?_; rintro e wq ⟨rfl, hq⟩; replace hb := below_then hb hq; clear hq))
      go_ret
      exact ⟨rfl, hb⟩
  have c1 : ¬ (8 : Int) < (n : Int) := by omega
  have c2 : ¬ (8 : Int) < (m : Int) := by omega
  obtain ⟨l1, l2, v1, v2⟩ := fault_zero hz
  have fL := fineR_of l1 v1
  have fR := fineR_of l2 v2
  obtain ⟨ms, hmm, hco⟩ := best_match L R
  have hbl := best_length L R
  rw [hL, hR] at hmm hbl
  have HZ := hid hz
  obtain ⟨bl, hbl2⟩ : ∃ z, (bestM L R 0 0).length = z := ⟨_, rfl⟩
  have hMC : ∀ a ac b bc W, TextAt W a L → TextAt W b R → n ≤ ac → m ≤ bc → Calls Try.prog 19 #[.slice a n ac, .slice b m bc] W fun e w' => ∃ sa sc, e = .returned (.tuple #[.slice sa bl sc, .int .i64 (restM L R 0 0), .int .i64 0]) ∧ StepsAt w' sa (bestM L R 0 0) ∧ Below W.heap.size W w' := fun a ac b bc W hA hB h1 h2 => by
    refine (hMO a ac b bc W hA hB h1 h2).mono ?_
    rintro e w' ⟨hb, ⟨h, -⟩ | ⟨-, sa, sc, rfl, hSt⟩⟩
    · exact absurd HZ.out h
    · rw [hbl2]; exact ⟨sa, sc, rfl, hSt, hb⟩
  have hRM := fun W hS hT => refMatch_any L R n m nc mc la ra W hL hR (by omega) (by omega) hnc hmc fL fR hS hT
  have hRC := fun sc sa W hS hT hP => refCost_any L R (pairsI (bestM L R 0 0)) ms n m bl nc mc sc la ra sa W hL hR (by omega) (by omega) hnc hmc fL fR (by simp [pairsI, hbl2]) (by omega) hmm hS hT hP
  simp only [hco] at hRC
  have hpg : ∀ i, (pairsI (bestM L R 0 0)).getD i (0, 0) = ((((bestM L R 0 0).getD i (0, 0)).1 : Int), (((bestM L R 0 0).getD i (0, 0)).2 : Int)) := pairsI_get _
  have hpl : (pairsI (bestM L R 0 0)).length = bl := by simp [pairsI, hbl2]
  simp only [hbl2] at hRM
  rw [hbl2] at hbl
  have HPG := hid hpg
  have HPL := hid hpl
  have HBL := hid hbl2
  have e3 : (restM L R 0 0 != restM L R 0 0) = false := by simp
  have e4 : ((bl : Int) != (bl : Int)) = false := by simp
  clear k1 k2 k3 k4 sL sR q3 q4 hL hR hS hT hre hMO hz hbig l1 l2 v1 v2 fL fR hmm hco hbl2 hpg hpl
  generalize restM L R 0 0 = z at hMC hRC e3
  generalize bestM L R 0 0 = D at hMC hRM hRC HPG HPL HBL
  generalize pairsI D = E at hRM hRC HPG HPL
  go_enter Try.func3, Try.ntmps3
  go_wp2_with (first | (go_at_call 16; refine hfw.mono ?_; rintro e wq ⟨rfl, rfl⟩) | (go_at_call 17; refine (hFA _ hSx hTx).mono ?_; rintro e wq ⟨rfl, hq⟩; (try replace hSS := hSS.grown hq); replace hSx := hSx.grown hq; replace hTx := hTx.grown hq; replace hb := below_then hb hq; clear hq) | (go_at_call_has 20 la; refine (hTL _ hSx).mono ?_; rintro e wq ⟨a, ac, rfl, hA, hAc, hq⟩; replace hSx := hSx.grown hq; replace hTx := hTx.grown hq; replace hb := below_then hb hq; clear hq) | (go_at_call_has 20 ra; refine (hTR _ hTx).mono ?_; rintro e wq ⟨b, bc, rfl, hB, hBc, hq⟩; replace hA := hA.grown hq; replace hSx := hSx.grown hq; replace hTx := hTx.grown hq; replace hb := below_then hb hq; clear hq) | (go_at_call 19; refine (hMC a ac b bc _ hA hB hAc hBc).mono ?_; rintro e wq ⟨sa, sc, rfl, hSS, hq⟩; clear hA hB; replace hSx := hSx.grown hq; replace hTx := hTx.grown hq; replace hb := below_then hb hq; clear hq) | (go_at_call 21; refine (hRM _ hSx hTx).mono ?_; rintro e wq ⟨xa, xc, rfl, hXX, hq⟩; replace hSS := hSS.grown hq; replace hSx := hSx.grown hq; replace hTx := hTx.grown hq; replace hb := below_then hb hq; clear hq) | (go_at_call 22; refine (hRC _ _ _ hSx hTx hXX).mono ?_; rintro e wq ⟨rfl, hq⟩; replace hSS := hSS.grown hq; replace hXX := hXX.grown hq; replace hSx := hSx.grown hq; replace hTx := hTx.grown hq; replace hb := below_then hb hq; clear hq))
  go_loopw [10] (fun i wr => ∃ j : Nat, j ≤ bl ∧ i = .int .i64 j ∧ Below wq.heap.size wq wr) (fun i _ => bl - (intOf i).toNat)
  case atStart => exact ⟨0, Nat.zero_le _, rfl, Below.refl _ _⟩
  case round =>
    obtain ⟨j, hj, rfl, hBr⟩ := hrel
    by_cases hlt : j < bl
    · have hlt' : (j : Int) < (bl : Int) := by omega
      have hj0 : (0 : Int) ≤ (j : Int) := by omega
      obtain ⟨b1, o1, e1, s1, s2⟩ := (hSS.grown hBr) j (by rw [HBL.out]; exact hlt)
      obtain ⟨b2, o2, e2, t1, t2⟩ := (hXX.grown hBr) j (by rw [HPL.out]; exact hlt)
      rw [HPG.out] at t1 t2
      subst e1 e2
      generalize (D.getD j (0, 0)).1 = x at s1 t1
      generalize (D.getD j (0, 0)).2 = y at s2 t2
      simp only at t1 t2
      have ex : ((x : Int) != (x : Int)) = false := by simp
      have ey : ((y : Int) != (y : Int)) = false := by simp
      have g1 := lt_of_cell s1
      have g2 := lt_of_cell t1
      go_wp2_with fail
      have oa : ∀ p : Over wr, p.w.cell? ⟨b1, o1 + j * 2, none⟩ = some (.int .i64 (x : Int)) := fun p => p.cell s1
      have ob : ∀ p : Over wr, p.w.cell? ⟨b1, o1 + j * 2 + 1, none⟩ = some (.int .i64 (y : Int)) := fun p => p.cell s2
      have oc : ∀ p : Over wr, p.w.cell? ⟨b2, o2 + j * 2, none⟩ = some (.int .i64 (x : Int)) := fun p => p.cell t1
      have od : ∀ p : Over wr, p.w.cell? ⟨b2, o2 + j * 2 + 1, none⟩ = some (.int .i64 (y : Int)) := fun p => p.cell t2
      refine wp_region_over wr (Below.refl _ _) (by kernel_rfl) (by kernel_rfl) ?_
      repeat (go_big_quiet_step (fail))
      refine wpQuiet_nil ?_
      intro wz hw'
      have hbz := below_then hBr (over_below hw')
      clear hw' oa ob oc od
      go_wp2_with fail
      go_roundw
      case rel => exact ⟨j + 1, by omega, by go_num, hbz⟩
      case measure => simp [intOf]; omega
    · have hjn : j = bl := by omega
      subst hjn
      replace hb := below_then hb hBr
      go_wp2_with (first | (go_at_call 18; refine (hwk _).mono ?_; rintro e wq ⟨rfl, hq⟩; replace hb := below_then hb hq; clear hq))
      go_ret
      exact ⟨rfl, hb⟩

end Go.Proofs.Ytohahlnhbppnhaa
