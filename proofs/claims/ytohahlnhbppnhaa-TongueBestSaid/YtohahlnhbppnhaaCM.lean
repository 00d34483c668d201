/- Tongue, the laws: the stage's theorem: no match costs less than the best one, and a table proves it. -/
import Derived.Test.YtohahlnhbppnhaaCL
import Derived.Test.YtohahlnhbppnhaaBA
import Derived.Test.YtohahlnhbppnhaaAZ
import Derived.Test.YtohahlnhbppnhaaAF
import Derived.Test.YtohahlnhbppnhaaAJ
import Derived.Test.YtohahlnhbppnhaaW
namespace Go.Proofs.Ytohahlnhbppnhaa
open Go.RowKit
set_option linter.unusedSimpArgs false
set_option linter.unusedVariables false

set_option maxRecDepth 100000 in
set_option maxHeartbeats 4000000 in
theorem bestLaw_any (L R : List Sen) (ws : List Int) (T : List (List Int)) (cost : Int) (n m nc mc wn wc t tc : Nat) (la ra wa ta : Option Addr) (w : World) (hL : L.length = n) (hR : R.length = m) (hn : n ≤ 9223372036854775807) (hm : m ≤ 9223372036854775807) (hw : ws.length = wn) (hwn : wn ≤ 9223372036854775807) (hTn : T.length = t) (ht : t ≤ 9223372036854775807) (hTr : ∀ i, i < t → (T.getD i []).length ≤ 9223372036854775807)
    (hS : TextAt w la L) (hT : TextAt w ra R) (hW : BytesAt w wa ws) (hG : GridAt w ta T) :
    Calls Try.prog 9 #[.slice la n nc, .slice ra m mc, .slice wa wn wc, .slice ta t tc, .int .i64 cost] w fun e w' => e = .returned (.bool true) ∧ Below w.heap.size w w' := by
  have hr := ready_any L R n m nc mc la ra w hL hR hn hm hS hT
  have hwk := fun W => wakes_any W
  obtain ⟨r, hre⟩ : ∃ r, readyM L R = r := ⟨_, rfl⟩
  rw [hre] at hr
  have hb : Below w.heap.size w w := Below.refl _ _
  cases r
  · clear hS hT hW hL hR hre hG hTr
    go_enter Try.func9, Try.ntmps9
    go_wp2_with (first | (go_at_call 48; refine hr.mono ?_; rintro e w1 ⟨rfl, hb1⟩) | (go_at_call 18; refine (hwk _).mono ?_; rintro e w2 ⟨rfl, hb2⟩))
    go_ret
    exact ⟨rfl, below_then hb1 hb2⟩
  by_cases h25 : t ≤ 25
  case neg =>
    have g25 : (25 : Int) < (t : Int) := by omega
    clear hS hT hW hL hR hre hG hTr h25
    go_enter Try.func9, Try.ntmps9
    go_wp2_with (first | (go_at_call 48; refine hr.mono ?_; rintro e w1 ⟨rfl, hb1⟩) | (go_at_call 18; refine (hwk _).mono ?_; rintro e w2 ⟨rfl, hb2⟩))
    go_ret
    exact ⟨rfl, below_then hb1 hb2⟩
  have g25 : ¬ (25 : Int) < (t : Int) := by omega
  unfold readyM at hre
  simp only [Bool.and_eq_true, decide_eq_true_eq] at hre
  obtain ⟨hfe, hf⟩ := hre
  obtain ⟨k1, k2, k3, k4⟩ := few_parts hfe
  obtain ⟨l1, l2, v1, v2⟩ := fault_zero hf
  have fL := fine_of L l1 v1
  have fR := fine_of R l2 v2
  have n20 := fL.2.1
  have m20 := fR.2.1
  have sL := fine_small ⟨k1, k3⟩
  have sR := fine_small ⟨k2, k4⟩
  have hTL := fun W hS => text_any L n nc la W hL (by omega) (fun s hs => by have := k3 s hs; omega) hS
  have hTR := fun W hT => text_any R m mc ra W hR (by omega) (fun s hs => by have := k4 s hs; omega) hT
  have hch := fun W hW => chosen_any n m nc mc wn wc la ra wa ws W (by omega) (by omega) hw hwn hW
  have hST := fun (l : List (Int × Int)) (hl : l.length ≤ 1000) sa sc W hP => steps_any l l.length sc sa W rfl hl hP
  have hMA := fun a ac b bc W hA hB h1 h2 => match_right L R n m hL hR sL sR hf a b ac bc W hA hB h1 h2
  have hPR : ∀ a ac b bc W, TextAt W a L → TextAt W b R → Calls Try.prog 31 #[.slice a n ac, .slice b m bc] W fun e w' => ∃ pa pc, e = .returned (.tuple #[.slice pa (n + 1) pc, .int .i64 0]) ∧ GridAt w' pa (gridL (n + 1) (m + 1) (halfM L R)) ∧ Below W.heap.size W w' := fun a ac b bc W hA hB => by
    refine (proof_any L R n ac m bc a b W hL hR sL sR hA hB (by omega) (by omega)).mono ?_
    rintro e w' ⟨hb, ⟨hne, -⟩ | ⟨-, B, pa, pc, g, -, rfl, hg⟩⟩
    · exact (hne hf).elim
    · rw [hL, hR] at hg
      rw [hL]
      exact ⟨pa, pc, rfl, hg.at, hb⟩
  have hP1 : ∀ a ac b bc pa pc W, TextAt W a L → TextAt W b R → n ≤ ac → m ≤ bc → GridAt W pa (gridL (n + 1) (m + 1) (halfM L R)) → Calls Try.prog 32 #[.slice a n ac, .slice b m bc, .int .i64 (restM L R 0 0), .slice pa (n + 1) pc] W fun e w' => e = .returned (.bool true) ∧ Below W.heap.size W w' := fun a ac b bc pa pc W hA hB h1 h2 hg => by
    have h := proveCost_any L R (gridL (n + 1) (m + 1) (halfM L R)) n ac m bc (n + 1) pc (restM L R 0 0) a b pa W hL hR sL sR h1 h2 hA hB (gridL_length _ _ _) (by omega) (fun r hr => by
      unfold gridL at hr
      rw [List.mem_map] at hr
      obtain ⟨i, -, rfl⟩ := hr
      simp
      omega) hg
    have hp := half_proves (L := L) (R := R) n20 m20 fL.1.2.2 fR.1.2.2 hf
    rw [hL, hR] at hp
    rw [hp] at h
    exact h
  have hP2 : (∀ r ∈ T, r.length ≤ 25) → ∀ a ac b bc pa pc W, TextAt W a L → TextAt W b R → n ≤ ac → m ≤ bc → GridAt W pa T → Calls Try.prog 32 #[.slice a n ac, .slice b m bc, .int .i64 cost, .slice pa t pc] W fun e w' => e = .returned (.bool (proveM L R T cost)) ∧ Below W.heap.size W w' := fun hk a ac b bc pa pc W hA hB h1 h2 hg =>
    proveCost_any L R T n ac m bc t pc cost a b pa W hL hR sL sR h1 h2 hA hB hTn (by omega) (fun r hr => by have := hk r hr; omega) hg
  have hRO := fun (hk : ∀ r ∈ T, r.length ≤ 25) W hg => rows_any T t tc ta W hTn (by omega) (fun r hr => by have := hk r hr; omega) hg
  have hCO : ∀ (l : List (Int × Int)) (ms : List (Nat × Nat × Nat × Nat)), l.length ≤ 1000 → matchM n m l = some ms → ∀ a ac b bc sa sc W, TextAt W a L → TextAt W b R → n ≤ ac → m ≤ bc → PairsAt W sa l → Calls Try.prog 23 #[.slice a n ac, .slice b m bc, .slice sa l.length sc] W fun e w' => e = .returned (.tuple #[.int .i64 (costM L R ms : Nat), .int .i64 0]) ∧ Below W.heap.size W w' := fun l ms hl hmm a ac b bc sa sc W hA hB h1 h2 hP => by
    refine (costOf_any L R n ac m bc a b W hL hR sL sR hA hB h1 h2 l l.length sc sa rfl hl hP).mono ?_
    rintro e w' ⟨hb, ⟨h, -⟩ | ⟨-, h, -⟩ | ⟨-, ms', h, rfl⟩⟩
    · exact (h hf).elim
    · rw [hL, hR, hmm] at h; cases h
    · rw [hL, hR, hmm] at h; cases h; exact ⟨rfl, hb⟩
  obtain ⟨mb, hmb1, hmb2⟩ := best_match L R
  rw [hL, hR] at hmb1
  have hbl := best_length L R
  rw [hL, hR] at hbl
  have hpl : (pairsI (bestM L R 0 0)).length = (bestM L R 0 0).length := by simp [pairsI]
  have hCB := hCO (pairsI (bestM L R 0 0)) mb (by rw [hpl]; omega) hmb1
  simp only [hpl, hmb2] at hCB
  have HLE : Hid (∀ l ms, matchM n m l = some ms → restM L R 0 0 ≤ (costM L R ms : Int)) := hid (fun l ms h => match_cost (by rw [hL, hR]; exact h))
  have HV : Hid (proveM L R T cost = true → cost ≤ restM L R 0 0) := hid proved_le
  have hMB : ∀ a ac b bc W, TextAt W a L → TextAt W b R → n ≤ ac → m ≤ bc → Calls Try.prog 19 #[.slice a n ac, .slice b m bc] W fun e w' => ∃ sa sc, e = .returned (.tuple #[.slice sa (bestM L R 0 0).length sc, .int .i64 (restM L R 0 0), .int .i64 0]) ∧ PairsAt w' sa (pairsI (bestM L R 0 0)) ∧ Below W.heap.size W w' := fun a ac b bc W hA hB h1 h2 => (hMA a ac b bc W hA hB h1 h2).mono fun e w' h => by
    obtain ⟨sa, sc, rfl, hs, hq⟩ := h
    exact ⟨sa, sc, rfl, pairs_steps hs, hq⟩
  generalize pairsI (bestM L R 0 0) = PL at hCB hMB
  generalize (bestM L R 0 0).length = BL at hCB hMB hbl
  generalize restM L R 0 0 = z at hCB hMB hP1 HLE HV
  generalize gridL (n + 1) (m + 1) (halfM L R) = GT at hPR hP1
  have hbl40 : ¬ (40 : Int) < (BL : Int) := by omega
  have zz : (z != z) = false := by simp
  have hSx := hS
  have hTx := hT
  have hWx := hW
  have hGx := hG
  have HTN := hid hTn
  have HN20 := hid (show n ≤ 20 ∧ m ≤ 20 by omega)
  clear hMA hS hT hW hG hfe hf k1 k2 k3 k4 l1 l2 v1 v2 fL fR n20 m20 sL sR hmb1 hmb2 hpl hL hR hTr hTn hbl h25
  go_enter Try.func9, Try.ntmps9
  go_wp2_with (go_at_call 48; refine hr.mono ?_; rintro e wq ⟨rfl, hq⟩; replace hSx := hSx.grown hq; replace hTx := hTx.grown hq; replace hWx := hWx.grown hq; replace hGx := hGx.grown hq; replace hb := below_then hb hq; clear hq)
  clear hr
  go_loopw [11] (fun i wr => ∃ j : Nat, j ≤ t ∧ i = .int .i64 j ∧ Hid (∀ k, k < j → (T.getD k []).length ≤ 25) ∧ Below wq.heap.size wq wr) (fun i _ => t - (intOf i).toNat)
  case atStart => exact ⟨0, Nat.zero_le _, rfl, hid (fun k h => by omega), Below.refl _ _⟩
  case round =>
    obtain ⟨j, hj, rfl, HK, hBr⟩ := hrel
    by_cases hlt : j < t
    · have hlt' : (j : Int) < t := by omega
      obtain ⟨b1, off1, xa, xc, ea, c1, hI⟩ := (hGx.grown hBr) j (by rw [HTN.out]; exact hlt)
      obtain ⟨ln, hln⟩ : ∃ q, (T.getD j []).length = q := ⟨_, rfl⟩
      rw [hln] at c1
      have HLN := hid hln
      clear hI hln hSx hTx hWx hGx hP1 hP2 hPR hRO hCO hCB hMB hch hST hTL hTR
      subst ea
      have q1 := lt_of_cell c1
      by_cases h25 : ln ≤ 25
      · have g : ¬ (25 : Int) < (ln : Int) := by omega
        go_wp2_with fail
        go_roundw
        case rel =>
          refine ⟨j + 1, by omega, by go_num, hid (fun k hk => ?_), hBr⟩
          rcases Nat.lt_or_ge k j with h | h
          · exact HK.out k h
          · obtain rfl : k = j := by omega
            rw [HLN.out]; exact h25
        case measure => simp [intOf]; omega
      · have g : (25 : Int) < (ln : Int) := by omega
        go_wp2_with (go_at_call 18; refine (hwk _).mono ?_; rintro e w2 ⟨rfl, hb2⟩)
        go_ret
        exact ⟨rfl, hb.trans ((hBr.mono hb.size).trans (hb2.mono (Nat.le_trans hb.size hBr.size)))⟩
    · have hjn : j = t := by omega
      subst hjn
      have hk : ∀ r ∈ T, r.length ≤ 25 := fun r hr => by
        obtain ⟨i, hi, rfl⟩ := List.mem_iff_getElem.1 hr
        have := HK.out i (by rw [← HTN.out]; exact hi)
        rw [List.getD_eq_getElem?_getD, List.getElem?_eq_getElem hi] at this
        exact this
      replace hP2 := hP2 hk
      replace hRO := hRO hk
      clear hk HK
      replace hb := hb.trans (hBr.mono hb.size)
      replace hSx := hSx.grown hBr
      replace hTx := hTx.grown hBr
      replace hWx := hWx.grown hBr
      replace hGx := hGx.grown hBr
      clear hBr
      go_upto_region 9 with (first | (go_at_call_has 20 la; refine (hTL _ hSx).mono ?_; rintro e wq ⟨a, ac, rfl, hA, hAc, hq⟩; (try replace hSx := hSx.grown hq); (try replace hTx := hTx.grown hq); (try replace hWx := hWx.grown hq); (try replace hGx := hGx.grown hq); (try replace hB := hB.grown hq); (try replace hSA := hSA.grown hq); (try replace hPG := hPG.grown hq); (try replace hPl := hPl.grown hq); (try replace hPs := hPs.grown hq); (try replace hRG := hRG.grown hq); replace hb := below_then hb hq; clear hq) | (go_at_call_has 20 ra; refine (hTR _ hTx).mono ?_; rintro e wq ⟨b, bc, rfl, hB, hBc, hq⟩; (try replace hSx := hSx.grown hq); (try replace hTx := hTx.grown hq); (try replace hWx := hWx.grown hq); (try replace hGx := hGx.grown hq); (try replace hA := hA.grown hq); (try replace hSA := hSA.grown hq); (try replace hPG := hPG.grown hq); (try replace hPl := hPl.grown hq); (try replace hPs := hPs.grown hq); (try replace hRG := hRG.grown hq); replace hb := below_then hb hq; clear hq) | (go_at_call 19; refine (hMB a ac b bc _ hA hB hAc hBc).mono ?_; rintro e wq ⟨sa, sc, rfl, hSA, hq⟩; clear hMB; (try replace hSx := hSx.grown hq); (try replace hTx := hTx.grown hq); (try replace hWx := hWx.grown hq); (try replace hGx := hGx.grown hq); (try replace hA := hA.grown hq); (try replace hB := hB.grown hq); (try replace hPG := hPG.grown hq); (try replace hPl := hPl.grown hq); (try replace hPs := hPs.grown hq); (try replace hRG := hRG.grown hq); replace hb := below_then hb hq; clear hq))
      go_upto_region 10 with (first | (go_at_call_has 20 la; refine (hTL _ hSx).mono ?_; rintro e wq ⟨a, ac, rfl, hA, hAc, hq⟩; (try replace hSx := hSx.grown hq); (try replace hTx := hTx.grown hq); (try replace hWx := hWx.grown hq); (try replace hGx := hGx.grown hq); (try replace hB := hB.grown hq); (try replace hSA := hSA.grown hq); (try replace hPG := hPG.grown hq); (try replace hPl := hPl.grown hq); (try replace hPs := hPs.grown hq); (try replace hRG := hRG.grown hq); replace hb := below_then hb hq; clear hq) | (go_at_call_has 20 ra; refine (hTR _ hTx).mono ?_; rintro e wq ⟨b, bc, rfl, hB, hBc, hq⟩; (try replace hSx := hSx.grown hq); (try replace hTx := hTx.grown hq); (try replace hWx := hWx.grown hq); (try replace hGx := hGx.grown hq); (try replace hA := hA.grown hq); (try replace hSA := hSA.grown hq); (try replace hPG := hPG.grown hq); (try replace hPl := hPl.grown hq); (try replace hPs := hPs.grown hq); (try replace hRG := hRG.grown hq); replace hb := below_then hb hq; clear hq) | (go_at_call 31; refine (hPR a ac b bc _ hA hB).mono ?_; rintro e wq ⟨pa, pc, rfl, hPG, hq⟩; clear hPR; (try replace hSx := hSx.grown hq); (try replace hTx := hTx.grown hq); (try replace hWx := hWx.grown hq); (try replace hGx := hGx.grown hq); (try replace hA := hA.grown hq); (try replace hB := hB.grown hq); (try replace hSA := hSA.grown hq); (try replace hPl := hPl.grown hq); (try replace hPs := hPs.grown hq); (try replace hRG := hRG.grown hq); replace hb := below_then hb hq; clear hq))
      go_upto_region 12 with (first | (go_at_call_has 20 la; refine (hTL _ hSx).mono ?_; rintro e wq ⟨a, ac, rfl, hA, hAc, hq⟩; (try replace hSx := hSx.grown hq); (try replace hTx := hTx.grown hq); (try replace hWx := hWx.grown hq); (try replace hGx := hGx.grown hq); (try replace hB := hB.grown hq); (try replace hSA := hSA.grown hq); (try replace hPG := hPG.grown hq); (try replace hPl := hPl.grown hq); (try replace hPs := hPs.grown hq); (try replace hRG := hRG.grown hq); replace hb := below_then hb hq; clear hq) | (go_at_call_has 20 ra; refine (hTR _ hTx).mono ?_; rintro e wq ⟨b, bc, rfl, hB, hBc, hq⟩; (try replace hSx := hSx.grown hq); (try replace hTx := hTx.grown hq); (try replace hWx := hWx.grown hq); (try replace hGx := hGx.grown hq); (try replace hA := hA.grown hq); (try replace hSA := hSA.grown hq); (try replace hPG := hPG.grown hq); (try replace hPl := hPl.grown hq); (try replace hPs := hPs.grown hq); (try replace hRG := hRG.grown hq); replace hb := below_then hb hq; clear hq) | (go_at_call 32; refine (hP1 a ac b bc pa pc _ hA hB hAc hBc hPG).mono ?_; rintro e wq ⟨rfl, hq⟩; clear hP1 hPG; (try replace hSx := hSx.grown hq); (try replace hTx := hTx.grown hq); (try replace hWx := hWx.grown hq); (try replace hGx := hGx.grown hq); (try replace hA := hA.grown hq); (try replace hB := hB.grown hq); (try replace hSA := hSA.grown hq); (try replace hPG := hPG.grown hq); (try replace hPl := hPl.grown hq); (try replace hPs := hPs.grown hq); (try replace hRG := hRG.grown hq); replace hb := below_then hb hq; clear hq))
      go_upto_region 13 with (first | (go_at_call_has 20 la; refine (hTL _ hSx).mono ?_; rintro e wq ⟨a, ac, rfl, hA, hAc, hq⟩; (try replace hSx := hSx.grown hq); (try replace hTx := hTx.grown hq); (try replace hWx := hWx.grown hq); (try replace hGx := hGx.grown hq); (try replace hB := hB.grown hq); (try replace hSA := hSA.grown hq); (try replace hPG := hPG.grown hq); (try replace hPl := hPl.grown hq); (try replace hPs := hPs.grown hq); (try replace hRG := hRG.grown hq); replace hb := below_then hb hq; clear hq) | (go_at_call_has 20 ra; refine (hTR _ hTx).mono ?_; rintro e wq ⟨b, bc, rfl, hB, hBc, hq⟩; (try replace hSx := hSx.grown hq); (try replace hTx := hTx.grown hq); (try replace hWx := hWx.grown hq); (try replace hGx := hGx.grown hq); (try replace hA := hA.grown hq); (try replace hSA := hSA.grown hq); (try replace hPG := hPG.grown hq); (try replace hPl := hPl.grown hq); (try replace hPs := hPs.grown hq); (try replace hRG := hRG.grown hq); replace hb := below_then hb hq; clear hq) | (go_at_call 23; refine (hCB a ac b bc sa sc _ hA hB hAc hBc hSA).mono ?_; rintro e wq ⟨rfl, hq⟩; clear hCB hSA; (try replace hSx := hSx.grown hq); (try replace hTx := hTx.grown hq); (try replace hWx := hWx.grown hq); (try replace hGx := hGx.grown hq); (try replace hA := hA.grown hq); (try replace hB := hB.grown hq); (try replace hSA := hSA.grown hq); (try replace hPG := hPG.grown hq); (try replace hPl := hPl.grown hq); (try replace hPs := hPs.grown hq); (try replace hRG := hRG.grown hq); replace hb := below_then hb hq; clear hq))
      go_upto_region 14 with (first | (go_at_call_has 20 la; refine (hTL _ hSx).mono ?_; rintro e wq ⟨a, ac, rfl, hA, hAc, hq⟩; (try replace hSx := hSx.grown hq); (try replace hTx := hTx.grown hq); (try replace hWx := hWx.grown hq); (try replace hGx := hGx.grown hq); (try replace hB := hB.grown hq); (try replace hSA := hSA.grown hq); (try replace hPG := hPG.grown hq); (try replace hPl := hPl.grown hq); (try replace hPs := hPs.grown hq); (try replace hRG := hRG.grown hq); replace hb := below_then hb hq; clear hq) | (go_at_call_has 20 ra; refine (hTR _ hTx).mono ?_; rintro e wq ⟨b, bc, rfl, hB, hBc, hq⟩; (try replace hSx := hSx.grown hq); (try replace hTx := hTx.grown hq); (try replace hWx := hWx.grown hq); (try replace hGx := hGx.grown hq); (try replace hA := hA.grown hq); (try replace hSA := hSA.grown hq); (try replace hPG := hPG.grown hq); (try replace hPl := hPl.grown hq); (try replace hPs := hPs.grown hq); (try replace hRG := hRG.grown hq); replace hb := below_then hb hq; clear hq) | (go_at_call 49; refine (hch _ hWx).mono ?_; rintro e wq ⟨l, ms, ca, cc, rfl, hPl, hmt, hll, hq⟩; clear hch hWx; (try replace hSx := hSx.grown hq); (try replace hTx := hTx.grown hq); (try replace hWx := hWx.grown hq); (try replace hGx := hGx.grown hq); (try replace hA := hA.grown hq); (try replace hB := hB.grown hq); (try replace hSA := hSA.grown hq); (try replace hPG := hPG.grown hq); (try replace hPs := hPs.grown hq); (try replace hRG := hRG.grown hq); replace hb := below_then hb hq; clear hq; have hl1 : l.length ≤ 1000 := by have := HN20.out; omega) | (go_at_call 24; refine (hST l hl1 ca cc _ hPl).mono ?_; rintro e wq ⟨da, dc, rfl, hPs, hq⟩; clear hST hPl; (try replace hSx := hSx.grown hq); (try replace hTx := hTx.grown hq); (try replace hWx := hWx.grown hq); (try replace hGx := hGx.grown hq); (try replace hA := hA.grown hq); (try replace hB := hB.grown hq); (try replace hSA := hSA.grown hq); (try replace hPG := hPG.grown hq); (try replace hPl := hPl.grown hq); (try replace hRG := hRG.grown hq); replace hb := below_then hb hq; clear hq) | (go_at_call 23; refine (hCO l ms hl1 hmt a ac b bc da dc _ hA hB hAc hBc hPs).mono ?_; rintro e wq ⟨rfl, hq⟩; clear hPs; (try replace hSx := hSx.grown hq); (try replace hTx := hTx.grown hq); (try replace hWx := hWx.grown hq); (try replace hGx := hGx.grown hq); (try replace hA := hA.grown hq); (try replace hB := hB.grown hq); (try replace hSA := hSA.grown hq); (try replace hPG := hPG.grown hq); (try replace hPl := hPl.grown hq); (try replace hPs := hPs.grown hq); (try replace hRG := hRG.grown hq); replace hb := below_then hb hq; clear hq))
      have gle : ¬ ((costM L R ms : Nat) : Int) < z := by have := HLE.out l ms hmt; omega
      clear hCO hmt hll
      go_upto_region 16 with fail
      clear gle
      generalize proveM L R T cost = v at hP2 HV
      cases v
      · skip
        go_wp2_with (first | (go_at_call_has 20 la; refine (hTL _ hSx).mono ?_; rintro e wq ⟨a, ac, rfl, hA, hAc, hq⟩; (try replace hSx := hSx.grown hq); (try replace hTx := hTx.grown hq); (try replace hWx := hWx.grown hq); (try replace hGx := hGx.grown hq); (try replace hB := hB.grown hq); (try replace hSA := hSA.grown hq); (try replace hPG := hPG.grown hq); (try replace hPl := hPl.grown hq); (try replace hPs := hPs.grown hq); (try replace hRG := hRG.grown hq); replace hb := below_then hb hq; clear hq) | (go_at_call_has 20 ra; refine (hTR _ hTx).mono ?_; rintro e wq ⟨b, bc, rfl, hB, hBc, hq⟩; (try replace hSx := hSx.grown hq); (try replace hTx := hTx.grown hq); (try replace hWx := hWx.grown hq); (try replace hGx := hGx.grown hq); (try replace hA := hA.grown hq); (try replace hSA := hSA.grown hq); (try replace hPG := hPG.grown hq); (try replace hPl := hPl.grown hq); (try replace hPs := hPs.grown hq); (try replace hRG := hRG.grown hq); replace hb := below_then hb hq; clear hq) | (go_at_call 33; refine (hRO _ hGx).mono ?_; rintro e wq ⟨ga, gc, rfl, hRG, hq⟩; (try replace hSx := hSx.grown hq); (try replace hTx := hTx.grown hq); (try replace hWx := hWx.grown hq); (try replace hGx := hGx.grown hq); (try replace hA := hA.grown hq); (try replace hB := hB.grown hq); (try replace hSA := hSA.grown hq); (try replace hPG := hPG.grown hq); (try replace hPl := hPl.grown hq); (try replace hPs := hPs.grown hq); replace hb := below_then hb hq; clear hq) | (go_at_call 32; refine (hP2 a ac b bc ga gc _ hA hB hAc hBc hRG).mono ?_; rintro e wq ⟨rfl, hq⟩; (try replace hSx := hSx.grown hq); (try replace hTx := hTx.grown hq); (try replace hWx := hWx.grown hq); (try replace hGx := hGx.grown hq); (try replace hA := hA.grown hq); (try replace hB := hB.grown hq); (try replace hSA := hSA.grown hq); (try replace hPG := hPG.grown hq); (try replace hPl := hPl.grown hq); (try replace hPs := hPs.grown hq); (try replace hRG := hRG.grown hq); replace hb := below_then hb hq; clear hq) | (go_at_call 18; refine (hwk _).mono ?_; rintro e wq ⟨rfl, hq⟩; (try replace hSx := hSx.grown hq); (try replace hTx := hTx.grown hq); (try replace hWx := hWx.grown hq); (try replace hGx := hGx.grown hq); (try replace hA := hA.grown hq); (try replace hB := hB.grown hq); (try replace hSA := hSA.grown hq); (try replace hPG := hPG.grown hq); (try replace hPl := hPl.grown hq); (try replace hPs := hPs.grown hq); (try replace hRG := hRG.grown hq); replace hb := below_then hb hq; clear hq))
        go_ret
        exact ⟨rfl, hb⟩
      · have hcz : cost ≤ z := HV.out rfl
        go_wp2_with (first | (go_at_call_has 20 la; refine (hTL _ hSx).mono ?_; rintro e wq ⟨a, ac, rfl, hA, hAc, hq⟩; (try replace hSx := hSx.grown hq); (try replace hTx := hTx.grown hq); (try replace hWx := hWx.grown hq); (try replace hGx := hGx.grown hq); (try replace hB := hB.grown hq); (try replace hSA := hSA.grown hq); (try replace hPG := hPG.grown hq); (try replace hPl := hPl.grown hq); (try replace hPs := hPs.grown hq); (try replace hRG := hRG.grown hq); replace hb := below_then hb hq; clear hq) | (go_at_call_has 20 ra; refine (hTR _ hTx).mono ?_; rintro e wq ⟨b, bc, rfl, hB, hBc, hq⟩; (try replace hSx := hSx.grown hq); (try replace hTx := hTx.grown hq); (try replace hWx := hWx.grown hq); (try replace hGx := hGx.grown hq); (try replace hA := hA.grown hq); (try replace hSA := hSA.grown hq); (try replace hPG := hPG.grown hq); (try replace hPl := hPl.grown hq); (try replace hPs := hPs.grown hq); (try replace hRG := hRG.grown hq); replace hb := below_then hb hq; clear hq) | (go_at_call 33; refine (hRO _ hGx).mono ?_; rintro e wq ⟨ga, gc, rfl, hRG, hq⟩; (try replace hSx := hSx.grown hq); (try replace hTx := hTx.grown hq); (try replace hWx := hWx.grown hq); (try replace hGx := hGx.grown hq); (try replace hA := hA.grown hq); (try replace hB := hB.grown hq); (try replace hSA := hSA.grown hq); (try replace hPG := hPG.grown hq); (try replace hPl := hPl.grown hq); (try replace hPs := hPs.grown hq); replace hb := below_then hb hq; clear hq) | (go_at_call 32; refine (hP2 a ac b bc ga gc _ hA hB hAc hBc hRG).mono ?_; rintro e wq ⟨rfl, hq⟩; (try replace hSx := hSx.grown hq); (try replace hTx := hTx.grown hq); (try replace hWx := hWx.grown hq); (try replace hGx := hGx.grown hq); (try replace hA := hA.grown hq); (try replace hB := hB.grown hq); (try replace hSA := hSA.grown hq); (try replace hPG := hPG.grown hq); (try replace hPl := hPl.grown hq); (try replace hPs := hPs.grown hq); (try replace hRG := hRG.grown hq); replace hb := below_then hb hq; clear hq) | (go_at_call 18; refine (hwk _).mono ?_; rintro e wq ⟨rfl, hq⟩; (try replace hSx := hSx.grown hq); (try replace hTx := hTx.grown hq); (try replace hWx := hWx.grown hq); (try replace hGx := hGx.grown hq); (try replace hA := hA.grown hq); (try replace hB := hB.grown hq); (try replace hSA := hSA.grown hq); (try replace hPG := hPG.grown hq); (try replace hPl := hPl.grown hq); (try replace hPs := hPs.grown hq); (try replace hRG := hRG.grown hq); replace hb := below_then hb hq; clear hq))
        go_ret
        exact ⟨rfl, hb⟩

end Go.Proofs.Ytohahlnhbppnhaa
