/- Tongue, the laws: the table of halves, and whether a table proves a cost, against the reference. -/
import Derived.Test.YtohahlnhbppnhaaCL
import Derived.Test.YtohahlnhbppnhaaCN
import Derived.Test.YtohahlnhbppnhaaAF
import Derived.Test.YtohahlnhbppnhaaAJ
import Derived.Test.YtohahlnhbppnhaaBN
import Derived.StillTailTactics
namespace Go.Proofs.Ytohahlnhbppnhaa
open Go.RowKit
set_option linter.unusedSimpArgs false
set_option linter.unusedVariables false

set_option maxRecDepth 100000 in
set_option maxHeartbeats 1000000 in
theorem proof_bad (L R : List Sen) (nl cl nr cr : Nat) (la ra : Option Addr) (w : World) (hL : L.length = nl) (hR : R.length = nr) (sL : Small L) (sR : Small R) (hS : TextAt w la L) (hT : TextAt w ra R) (hf : faultM L R ≠ 0) : Calls Try.prog 31 #[.slice la nl cl, .slice ra nr cr] w fun e w' => e = .returned (.tuple #[.slice none 0 0, .int .i64 (faultM L R)]) ∧ Below w.heap.size w w' := by
  have hp := pairOf_any L R nl cl nr cr la ra w hL hR sL sR hS hT
  obtain ⟨z, hz⟩ : ∃ z, faultM L R = z := ⟨_, rfl⟩
  have HZ := hid hz
  have h0 : z ≠ 0 := by rw [← hz]; exact hf
  have h0' : ((z : Int) != 0) = true := by simp [h0]
  clear hL hR sL sR hS hT hf
  go_enter Try.func31, Try.ntmps31
  go_wp2_with (first | (go_at_call 52; refine hp.mono ?_; clear hp; rintro e w1 ⟨hb1, ⟨-, rfl⟩ | ⟨hne, -⟩⟩; rotate_left 1; (exact (h0 (hz.symm.trans hne)).elim); rw [hz]; clear hz))
  refine bodyPost_ret (v := .tuple #[.slice none 0 0, .int .i64 z]) (by simp [results, Try.f31, go_sem]) rfl ?_
  exact ⟨by rw [HZ.out], hb1.alloc hb1.size _⟩

set_option maxRecDepth 100000 in
set_option maxHeartbeats 4000000 in
theorem proofsLaw_any (L R : List Sen) (T : List (List Int)) (cost : Int) (own : Bool) (row at_ by_ : Int) (n m nc mc t tc : Nat) (la ra ta : Option Addr) (w : World) (hL : L.length = n) (hR : R.length = m) (hnc : n ≤ nc) (hmc : m ≤ mc) (hn : n ≤ 9223372036854775807) (hm : m ≤ 9223372036854775807) (hTn : T.length = t) (ht : t ≤ 9223372036854775807) (hTr : ∀ i, i < t → (T.getD i []).length ≤ 9223372036854775807)
    (hrow : 0 ≤ row ∧ row ≤ 255) (hat : 0 ≤ at_ ∧ at_ ≤ 255) (hby : -128 ≤ by_ ∧ by_ ≤ 127) (hS : TextAt w la L) (hT : TextAt w ra R) (hG : GridAt w ta T) :
    Calls Try.prog 5 #[.slice la n nc, .slice ra m mc, .slice ta t tc, .int .i64 cost, .bool own, .int .u8 row, .int .u8 at_, .int .i8 by_] w fun e w' => e = .returned (.bool true) ∧ Below w.heap.size w w' := by
  have hr := few_any L R n m nc mc la ra w hL hR hn hm hS hT
  have hwk := fun W => wakes_any W
  obtain ⟨r, hre⟩ : ∃ r, fewM L R = r := ⟨_, rfl⟩
  rw [hre] at hr
  have hb : Below w.heap.size w w := Below.refl _ _
  cases r
  · clear hS hT hL hR hre hG hTr
    go_enter Try.func5, Try.ntmps5
    go_wp2_with (first | (go_at_call 16; refine hr.mono ?_; rintro e w1 ⟨rfl, rfl⟩) | (go_at_call 18; refine (hwk _).mono ?_; rintro e w2 ⟨rfl, hb2⟩))
    go_ret
    exact ⟨rfl, hb2⟩
  by_cases h25 : t ≤ 25
  case neg =>
    have g25 : (25 : Int) < (t : Int) := by omega
    clear hS hT hL hR hre hG hTr h25
    go_enter Try.func5, Try.ntmps5
    go_wp2_with (first | (go_at_call 16; refine hr.mono ?_; rintro e w1 ⟨rfl, rfl⟩) | (go_at_call 18; refine (hwk _).mono ?_; rintro e w2 ⟨rfl, hb2⟩))
    go_ret
    exact ⟨rfl, hb2⟩
  have g25 : ¬ (25 : Int) < (t : Int) := by omega
  obtain ⟨k1, k2, k3, k4⟩ := few_parts hre
  have sL := fine_small ⟨k1, k3⟩
  have sR := fine_small ⟨k2, k4⟩
  have hn22 : n ≤ 22 := by omega
  have hm22 : m ≤ 22 := by omega
  have q3 : ∀ s ∈ L, s.marks.length ≤ 1000 := fun s hs => by have := k3 s hs; omega
  have q4 : ∀ s ∈ R, s.marks.length ≤ 1000 := fun s hs => by have := k4 s hs; omega
  have hTL := fun W hS => text_any L n nc la W hL (by omega) q3 hS
  have hTR := fun W hT => text_any R m mc ra W hR (by omega) q4 hT
  have hFT := fun W hS hT => lawFault_any L R n m nc mc la ra W hL hR (by omega) (by omega) q3 q4 hS hT
  have hRO := fun (T : List (List Int)) t tc ta (hTn : T.length = t) (ht : t ≤ 25) (hk : ∀ r ∈ T, r.length ≤ 25) W hg => rows_any T t tc ta W hTn (by omega) (fun r hr => by have := hk r hr; omega) hg
  have hP2 : ∀ (T : List (List Int)) (t : Nat) (cost : Int), T.length = t → t ≤ 25 → (∀ r ∈ T, r.length ≤ 25) → ∀ a ac b bc pa pc W, TextAt W a L → TextAt W b R → n ≤ ac → m ≤ bc → GridAt W pa T → Calls Try.prog 32 #[.slice a n ac, .slice b m bc, .int .i64 cost, .slice pa t pc] W fun e w' => e = .returned (.bool (proveM L R T cost)) ∧ Below W.heap.size W w' := fun T t cost hTn ht hk a ac b bc pa pc W hA hB h1 h2 hg =>
    proveCost_any L R T n ac m bc t pc cost a b pa W hL hR sL sR h1 h2 hA hB hTn (by omega) (fun r hr => by have := hk r hr; omega) hg
  have hSx := hS
  have hTx := hT
  have hGx := hG
  have HTN := hid hTn
  have HLL := hid hL
  have HRR := hid hR
  have HSM := hid (And.intro sL sR)
  clear hS hT hG k1 k2 k3 k4 sL sR hL hR hTr hTn h25 hre q3 q4 ht
  go_enter Try.func5, Try.ntmps5
  go_wp2_with (go_at_call 16; refine hr.mono ?_; rintro e wq ⟨rfl, rfl⟩; have HS0 := hid (And.intro hSx hTx))
  clear hr
  go_loopw [17] (fun i wr => ∃ j : Nat, j ≤ t ∧ i = .int .i64 j ∧ Hid (∀ k, k < j → (T.getD k []).length ≤ 25) ∧ Below wq.heap.size wq wr) (fun i _ => t - (intOf i).toNat)
  case atStart => exact ⟨0, Nat.zero_le _, rfl, hid (fun k h => by omega), Below.refl _ _⟩
  case round =>
    clear hb
    obtain ⟨j, hj, rfl, HK, hb⟩ := hrel
    by_cases hlt : j < t
    · have hlt' : (j : Int) < t := by omega
      obtain ⟨b1, off1, xa, xc, ea, c1, hI⟩ := (hGx.grown hb) j (by rw [HTN.out]; exact hlt)
      obtain ⟨ln, hln⟩ : ∃ q, (T.getD j []).length = q := ⟨_, rfl⟩
      rw [hln] at c1
      have HLN := hid hln
      clear hI hln hSx hTx hGx hP2 hRO hTL hTR hFT
      subst ea
      have q1 := lt_of_cell c1
      by_cases h25 : ln ≤ 25
      · have g : ¬ (25 : Int) < (ln : Int) := by omega
        go_wp2_with fail
        go_roundw
        case rel =>
          refine ⟨j + 1, by omega, by go_num, hid (fun k hk => ?_), hb⟩
          rcases Nat.lt_or_ge k j with h | h
          · exact HK.out k h
          · obtain rfl : k = j := by omega
            rw [HLN.out]; exact h25
        case measure => simp [intOf]; omega
      · have g : (25 : Int) < (ln : Int) := by omega
        go_wp2_with (go_at_call 18; refine (hwk _).mono ?_; rintro e w2 ⟨rfl, hb2⟩)
        go_ret
        exact ⟨rfl, below_then hb hb2⟩
    · have hjn : j = t := by omega
      subst hjn
      have hk : ∀ r ∈ T, r.length ≤ 25 := fun r hr => by
        obtain ⟨i, hi, rfl⟩ := List.mem_iff_getElem.1 hr
        have := HK.out i (by rw [← HTN.out]; exact hi)
        rw [List.getD_eq_getElem?_getD, List.getElem?_eq_getElem hi] at this
        exact this
      have HK2 := hid hk
      clear hk HK
      replace hSx := hSx.grown hb
      replace hTx := hTx.grown hb
      replace hGx := hGx.grown hb
      have j25 : j ≤ 25 := by omega
      by_cases hf : faultM L R = 0
      case neg =>
        have hPB : ∀ a ac b bc W, TextAt W a L → TextAt W b R → Calls Try.prog 31 #[.slice a n ac, .slice b m bc] W fun e w' => e = .returned (.tuple #[.slice none 0 0, .int .i64 (faultM L R)]) ∧ Below W.heap.size W w' := fun a ac b bc W hA hB => proof_bad L R n ac m bc a b W HLL.out HRR.out HSM.out.1 HSM.out.2 hA hB hf
        have hR1 := hRO T j tc ta HTN.out (by omega) HK2.out
        have hP1 := hP2 T j cost HTN.out (by omega) HK2.out
        have hpv : proveM L R T cost = false := by unfold proveM; rw [decide_eq_false hf, Bool.false_and]
        rw [hpv] at hP1
        clear hpv hRO hP2
        generalize faultM L R = z at hf hFT hPB
        have z0 : ((z : Int) == 0) = false := by simpa using hf
        have z1 : ((z : Int) == (z : Int)) = true := by simp
        clear hf
        go_wp2_with (first | (go_at_call_has 20 la; refine (hTL _ hSx).mono ?_; rintro e wq ⟨a, ac, rfl, hA, hAc, hq⟩; (try replace hSx := hSx.grown hq); (try replace hTx := hTx.grown hq); (try replace hGx := hGx.grown hq); (try replace hB := hB.grown hq); (try replace hPG := hPG.grown hq); (try replace hWG := hWG.grown hq); (try replace hRG := hRG.grown hq); replace hb := below_then hb hq; clear hq) | (go_at_call_has 20 ra; refine (hTR _ hTx).mono ?_; rintro e wq ⟨b, bc, rfl, hB, hBc, hq⟩; (try replace hSx := hSx.grown hq); (try replace hTx := hTx.grown hq); (try replace hGx := hGx.grown hq); (try replace hA := hA.grown hq); (try replace hPG := hPG.grown hq); (try replace hWG := hWG.grown hq); (try replace hRG := hRG.grown hq); replace hb := below_then hb hq; clear hq) | (go_at_call 18; refine (hwk _).mono ?_; rintro e wq ⟨rfl, hq⟩; (try replace hSx := hSx.grown hq); (try replace hTx := hTx.grown hq); (try replace hGx := hGx.grown hq); (try replace hA := hA.grown hq); (try replace hB := hB.grown hq); (try replace hPG := hPG.grown hq); (try replace hWG := hWG.grown hq); (try replace hRG := hRG.grown hq); replace hb := below_then hb hq; clear hq) | (go_at_call 31; refine (hPB a ac b bc _ hA hB).mono ?_; rintro e wq ⟨rfl, hq⟩; (try replace hSx := hSx.grown hq); (try replace hTx := hTx.grown hq); (try replace hGx := hGx.grown hq); (try replace hA := hA.grown hq); (try replace hB := hB.grown hq); (try replace hPG := hPG.grown hq); (try replace hWG := hWG.grown hq); (try replace hRG := hRG.grown hq); replace hb := below_then hb hq; clear hq) | (go_at_call 17; refine (hFT _ hSx hTx).mono ?_; rintro e wq ⟨rfl, hq⟩; (try replace hSx := hSx.grown hq); (try replace hTx := hTx.grown hq); (try replace hGx := hGx.grown hq); (try replace hA := hA.grown hq); (try replace hB := hB.grown hq); (try replace hPG := hPG.grown hq); (try replace hWG := hWG.grown hq); (try replace hRG := hRG.grown hq); replace hb := below_then hb hq; clear hq) | (go_at_call 33; refine (hR1 _ hGx).mono ?_; rintro e wq ⟨ga, gc, rfl, hRG, hq⟩; (try replace hSx := hSx.grown hq); (try replace hTx := hTx.grown hq); (try replace hGx := hGx.grown hq); (try replace hA := hA.grown hq); (try replace hB := hB.grown hq); (try replace hPG := hPG.grown hq); (try replace hWG := hWG.grown hq); replace hb := below_then hb hq; clear hq) | (go_at_call 32; refine (hP1 a ac b bc ga gc _ hA hB hAc hBc hRG).mono ?_; rintro e wq ⟨rfl, hq⟩; (try replace hSx := hSx.grown hq); (try replace hTx := hTx.grown hq); (try replace hGx := hGx.grown hq); (try replace hA := hA.grown hq); (try replace hB := hB.grown hq); (try replace hPG := hPG.grown hq); (try replace hWG := hWG.grown hq); (try replace hRG := hRG.grown hq); replace hb := below_then hb hq; clear hq))
        go_ret
        exact ⟨rfl, hb⟩
      obtain ⟨l1, l2, v1, v2⟩ := fault_zero hf
      have fL := fineR_of l1 v1
      have fR := fineR_of l2 v2
      have n20 : n ≤ 20 := by rw [← HLL.out]; exact (fine_of L l1 v1).2.1
      have m20 : m ≤ 20 := by rw [← HRR.out]; exact (fine_of R l2 v2).2.1
      have hPR : ∀ a ac b bc W, TextAt W a L → TextAt W b R → Calls Try.prog 31 #[.slice a n ac, .slice b m bc] W fun e w' => ∃ pa pc, e = .returned (.tuple #[.slice pa (n + 1) pc, .int .i64 0]) ∧ GridAt w' pa (gridL (n + 1) (m + 1) (halfM L R)) ∧ Below W.heap.size W w' := fun a ac b bc W hA hB => by
        refine (proof_any L R n ac m bc a b W HLL.out HRR.out HSM.out.1 HSM.out.2 hA hB n20 m20).mono ?_
        rintro e w' ⟨hb, ⟨hne, -⟩ | ⟨-, B, pa, pc, g, -, rfl, hg⟩⟩
        · exact (hne hf).elim
        · rw [HLL.out, HRR.out] at hg
          rw [HLL.out]
          exact ⟨pa, pc, rfl, hg.at, hb⟩
      have hRP := fun W hS hT => refProof_any L R n m nc mc la ra W HLL.out HRR.out n20 m20 hnc hmc fL fR hS hT
      have hPV : ∀ (T : List (List Int)) (t tc : Nat) (ta : Option Addr) (cost : Int), T.length = t → t ≤ 25 → (∀ r ∈ T, r.length ≤ 25) → ∀ W, TextAt W la L → TextAt W ra R → GridAt W ta T → Calls Try.prog 35 #[.slice la n nc, .slice ra m mc, .int .i64 cost, .slice ta t tc] W fun e w' => e = .returned (.bool (proveM L R T cost)) ∧ Below W.heap.size W w' := fun T t tc ta cost hTn ht hk W hA hB hg => by
        have h := refProves_any L R T cost n m nc mc t tc la ra ta W HLL.out HRR.out n20 m20 hnc hmc fL fR hA hB hTn (by omega) (fun i hi => by
          rw [List.getD_eq_getElem?_getD, List.getElem?_eq_getElem (by omega)]
          have := hk _ (List.getElem_mem (l := T) (n := i) (by omega))
          show (T[i]).length ≤ 1000
          omega) hg
        have e : proveM L R T cost = provedB L R T n m cost := by unfold proveM provedB; rw [decide_eq_true hf, Bool.true_and, HLL.out, HRR.out]
        rw [e]
        exact h
      rw [hf] at hFT
      have HHB : Hid (∀ i k, 0 ≤ halfM L R i k ∧ halfM L R i k ≤ 82400) := hid (half_bd (by rw [HLL.out]; exact n20) (by rw [HRR.out]; exact m20))
      have hGL : ∀ F : Nat → Nat → Int, (gridL (n + 1) (m + 1) F).length = n + 1 ∧ (∀ r ∈ gridL (n + 1) (m + 1) F, r.length ≤ 25) ∧ ∀ i, i < n + 1 → ((gridL (n + 1) (m + 1) F).getD i []).length = m + 1 := fun F => ⟨gridL_length _ _ _, fun r hr => by
        unfold gridL at hr
        rw [List.mem_map] at hr
        obtain ⟨i, -, rfl⟩ := hr
        simp
        omega, fun i hi => by rw [gridL_row _ _ _ i hi]; simp⟩
      have HGL := hid hGL
      clear hGL fL fR l1 l2 v1 v2 hf hnc hmc
      generalize halfM L R = HM at hPR hRP HHB
      obtain ⟨N, hN⟩ : ∃ N, n + 1 = N := ⟨_, rfl⟩
      obtain ⟨M, hM⟩ : ∃ M, m + 1 = M := ⟨_, rfl⟩
      have wM : IntKind.i64.wrap ((m : Int) + 1) = (M : Int) := by rw [IntKind.wrap_i64]; omega
      rw [hN, hM] at HGL hRP
      simp only [hN, hM] at hPR
      have HNM := hid (And.intro hN hM)
      have nn : ((N : Int) != (N : Int)) = false := by simp
      clear hN hM
      go_upto_region 12 with (first | (go_at_call_has 20 la; refine (hTL _ hSx).mono ?_; rintro e wq ⟨a, ac, rfl, hA, hAc, hq⟩; (try replace hSx := hSx.grown hq); (try replace hTx := hTx.grown hq); (try replace hGx := hGx.grown hq); (try replace hB := hB.grown hq); (try replace hPG := hPG.grown hq); (try replace hWG := hWG.grown hq); (try replace hRG := hRG.grown hq); replace hb := below_then hb hq; clear hq) | (go_at_call_has 20 ra; refine (hTR _ hTx).mono ?_; rintro e wq ⟨b, bc, rfl, hB, hBc, hq⟩; (try replace hSx := hSx.grown hq); (try replace hTx := hTx.grown hq); (try replace hGx := hGx.grown hq); (try replace hA := hA.grown hq); (try replace hPG := hPG.grown hq); (try replace hWG := hWG.grown hq); (try replace hRG := hRG.grown hq); replace hb := below_then hb hq; clear hq) | (go_at_call 31; refine (hPR a ac b bc _ hA hB).mono ?_; rintro e wq ⟨pa, pc, rfl, hPG, hq⟩; clear hPR; (try replace hSx := hSx.grown hq); (try replace hTx := hTx.grown hq); (try replace hGx := hGx.grown hq); (try replace hA := hA.grown hq); (try replace hB := hB.grown hq); (try replace hWG := hWG.grown hq); (try replace hRG := hRG.grown hq); replace hb := below_then hb hq; clear hq) | (go_at_call 17; refine (hFT _ hSx hTx).mono ?_; rintro e wq ⟨rfl, hq⟩; (try replace hSx := hSx.grown hq); (try replace hTx := hTx.grown hq); (try replace hGx := hGx.grown hq); (try replace hA := hA.grown hq); (try replace hB := hB.grown hq); (try replace hPG := hPG.grown hq); (try replace hWG := hWG.grown hq); (try replace hRG := hRG.grown hq); replace hb := below_then hb hq; clear hq))
      have hlow := hb.size
      go_upto_region 13 with (go_at_call 34; refine (hRP _ hSx hTx).mono ?_; rintro e wq ⟨xa, xc, g, rfl, hWG, hq⟩; clear hRP; (try replace hSx := hSx.grown hq); (try replace hTx := hTx.grown hq); (try replace hGx := hGx.grown hq); (try replace hA := hA.grown hq); (try replace hB := hB.grown hq); (try replace hPG := hPG.grown hq); (try replace hRG := hRG.grown hq); replace hb := below_then hb hq; clear hq)
      go_wp2_with fail
      clear hA hB hFT nn
      go_loopw [22] (fun i wr => ∃ j' : Nat, j' ≤ N ∧ i = .int .i64 j' ∧ Below wq.heap.size wq wr) (fun i _ => N - (intOf i).toNat)
      case atStart => exact ⟨0, Nat.zero_le _, rfl, Below.refl _ _⟩
      case round =>
        obtain ⟨i, hi, rfl, hBr⟩ := hrel
        by_cases hlt : i < N
        · have hlt' : (i : Int) < N := by omega
          have hi0 : (0 : Int) ≤ (i : Int) := by omega
          obtain ⟨G1, G2, G3⟩ := HGL.out HM
          have hWA := (hWG.grown hBr).at
          obtain ⟨b1, o1, r1, c1, e1, d1, I1⟩ := (hPG.grown hBr) i (by rw [G1]; exact hlt)
          obtain ⟨b2, o2, r2, c2, e2, d2, I2⟩ := hWA i (by rw [G1]; exact hlt)
          have hl := G3 i hlt
          have hM21 : M ≤ 21 := by have := HNM.out; omega
          have hN21 : N ≤ 21 := by have := HNM.out; omega
          have hsame := fun W a1 a2 => ints_same ((gridL N M HM).getD i []) M c1 c2 r1 r2 W hl (by omega) (IntsAt.grown (w' := W) I1 a1) (IntsAt.grown (w' := W) I2 a2)
          rw [hl] at d1 d2
          clear G1 G2 G3 hWA hWG hPG hPV hP2 hRO hTL hTR hGx hSx hTx I1 I2 hl
          subst e1 e2
          have q1 := lt_of_cell d1
          have q2 := lt_of_cell d2
          go_wp2_with fail
          have oa : ∀ p : Over wr, p.w.cell? ⟨b1, o1 + i, none⟩ = some (.slice r1 M c1) := fun p => p.cell d1
          have ob : ∀ p : Over wr, p.w.cell? ⟨b2, o2 + i, none⟩ = some (.slice r2 M c2) := fun p => p.cell d2
          have hcA : ∀ p : Over wr, _ := fun p => hsame p.w p.h p.h
          refine wp_region_over wr (Below.refl _ _) (by kernel_rfl) (by kernel_rfl) ?_
          repeat (go_big_quiet_step (first | (go_at_call 29; exact Calls.over_of (hcA _))))
          refine wpQuiet_nil ?_
          intro wz hw'
          have hbz := below_then hBr (over_below hw')
          clear hw' oa ob hcA
          go_wp2_with fail
          go_roundw
          case rel => exact ⟨i + 1, by omega, by go_num, hbz⟩
          case measure => simp [intOf]; omega
        · have hin : i = N := by omega
          subst hin
          replace hb := below_then hb hBr
          replace hSx := hSx.grown hBr
          replace hTx := hTx.grown hBr
          replace hGx := hGx.grown hBr
          replace hWG := hWG.grown hBr
          clear hBr hPG hwk
          have hwk := fun W => wakes_any W
          cases own
          · have hR1 := hRO T j tc ta HTN.out (by omega) HK2.out
            have hP1 := hP2 T j cost HTN.out (by omega) HK2.out
            have hV1 := hPV T j tc ta cost HTN.out (by omega) HK2.out
            generalize proveM L R T cost = v at hP1 hV1
            have vv : (v == v) = true := by simp
            clear hRO hP2 hPV hWG
            go_wp2_with (first | (go_at_call_has 20 la; refine (hTL _ hSx).mono ?_; rintro e wq ⟨a, ac, rfl, hA, hAc, hq⟩; (try replace hSx := hSx.grown hq); (try replace hTx := hTx.grown hq); (try replace hGx := hGx.grown hq); (try replace hB := hB.grown hq); (try replace hPG := hPG.grown hq); (try replace hWG := hWG.grown hq); (try replace hRG := hRG.grown hq); replace hb := below_then hb hq; clear hq) | (go_at_call_has 20 ra; refine (hTR _ hTx).mono ?_; rintro e wq ⟨b, bc, rfl, hB, hBc, hq⟩; (try replace hSx := hSx.grown hq); (try replace hTx := hTx.grown hq); (try replace hGx := hGx.grown hq); (try replace hA := hA.grown hq); (try replace hPG := hPG.grown hq); (try replace hWG := hWG.grown hq); (try replace hRG := hRG.grown hq); replace hb := below_then hb hq; clear hq) | (go_at_call 18; refine (hwk _).mono ?_; rintro e wq ⟨rfl, hq⟩; (try replace hSx := hSx.grown hq); (try replace hTx := hTx.grown hq); (try replace hGx := hGx.grown hq); (try replace hA := hA.grown hq); (try replace hB := hB.grown hq); (try replace hPG := hPG.grown hq); (try replace hWG := hWG.grown hq); (try replace hRG := hRG.grown hq); replace hb := below_then hb hq; clear hq) | (go_at_call 33; refine (hR1 _ hGx).mono ?_; rintro e wq ⟨ga, gc, rfl, hRG, hq⟩; (try replace hSx := hSx.grown hq); (try replace hTx := hTx.grown hq); (try replace hGx := hGx.grown hq); (try replace hA := hA.grown hq); (try replace hB := hB.grown hq); (try replace hPG := hPG.grown hq); (try replace hWG := hWG.grown hq); replace hb := below_then hb hq; clear hq) | (go_at_call 32; refine (hP1 a ac b bc ga gc _ hA hB hAc hBc hRG).mono ?_; rintro e wq ⟨rfl, hq⟩; (try replace hSx := hSx.grown hq); (try replace hTx := hTx.grown hq); (try replace hGx := hGx.grown hq); (try replace hA := hA.grown hq); (try replace hB := hB.grown hq); (try replace hPG := hPG.grown hq); (try replace hWG := hWG.grown hq); (try replace hRG := hRG.grown hq); replace hb := below_then hb hq; clear hq) | (go_at_call 35; refine (hV1 _ hSx hTx hGx).mono ?_; rintro e wq ⟨rfl, hq⟩; (try replace hSx := hSx.grown hq); (try replace hTx := hTx.grown hq); (try replace hGx := hGx.grown hq); (try replace hA := hA.grown hq); (try replace hB := hB.grown hq); (try replace hPG := hPG.grown hq); (try replace hWG := hWG.grown hq); (try replace hRG := hRG.grown hq); replace hb := below_then hb hq; clear hq))
            go_ret
            exact ⟨rfl, hb⟩
          · clear hGx
            have hnm := HNM.out
            obtain ⟨ob, eo, c0, c1⟩ := hWG.read (i := n) (by omega)
            replace c1 := c1 m (by omega)
            have hhb := HHB.out n m
            subst eo
            have ga := lt_of_cell c0
            have gb := lt_of_cell c1
            have n1 : (n : Int) < (i : Int) := by omega
            have m1 : (m : Int) < (M : Int) := by omega
            clear hnm
            go_upto_region 23 with fail
            clear c0 c1 ga gb n1 m1
            have hnm := HNM.out
            obtain ⟨i0, hi0⟩ : ∃ q : Nat, row.tmod (i : Int) = (q : Int) := ⟨(row.tmod (i : Int)).toNat, by have := Int.tmod_nonneg (i : Int) hrow.1; omega⟩
            obtain ⟨k0, hk0⟩ : ∃ q : Nat, at_.tmod (M : Int) = (q : Int) := ⟨(at_.tmod (M : Int)).toNat, by have := Int.tmod_nonneg (M : Int) hat.1; omega⟩
            have hi1 : i0 < i := by have := Int.tmod_lt_of_pos row (b := (i : Int)) (by omega); omega
            have hk1 : k0 < M := by have := Int.tmod_lt_of_pos at_ (b := (M : Int)) (by omega); omega
            obtain ⟨ob2, eo, c0, c1⟩ := hWG.read (i := i0) hi1
            cases eo
            have fr := (hWG.row i0 hi1).frozen k0
            have hhb2 := HHB.out i0 k0
            replace c1 := c1 k0 hk1
            obtain ⟨y, hy⟩ : ∃ y, by_.tmod 3 = y := ⟨_, rfl⟩
            have hyb : -3 < y ∧ y < 3 := by
              have h1 := Int.tmod_lt_of_pos by_ (b := 3) (by omega)
              have h2 := Int.tmod_lt_of_pos (-by_) (b := 3) (by omega)
              rw [Int.neg_tmod] at h2
              rw [← hy]; omega
            have ga := lt_of_cell c0
            have gb := lt_of_cell c1
            have i2 : (i0 : Int) < (i : Int) := by omega
            have k2 : (k0 : Int) < (M : Int) := by omega
            have w1 : IntKind.i64.wrap row = row := by rw [IntKind.wrap_i64]; omega
            have w2 : IntKind.i64.wrap at_ = at_ := by rw [IntKind.wrap_i64]; omega
            have w3 : IntKind.i64.wrap by_ = by_ := by rw [IntKind.wrap_i64]; omega
            have w4 : IntKind.i64.wrap (HM i0 k0 + y) = HM i0 k0 + y := by rw [IntKind.wrap_i64]; omega
            have w5 : ((i : Int) == 0) = false := by simp; omega
            have w6 : ((M : Int) == 0) = false := by simp; omega
            have w7 : IntKind.i64.wrap (i0 : Int) = (i0 : Int) := by rw [IntKind.wrap_i64]; omega
            have w8 : IntKind.i64.wrap (k0 : Int) = (k0 : Int) := by rw [IntKind.wrap_i64]; omega
            have w9 : IntKind.i64.wrap y = y := by rw [IntKind.wrap_i64]; omega
            have i9 : ¬ (i = 0) := by omega
            have m9 : ¬ (M = 0) := by omega
            clear hnm
            go_still_tail 21, (by kernel_rfl)
            change wpList _ _ _ _ _ wr.drew
            have hd := (Below.refl wr.heap.size wr).drew
            replace c0 := cell_grown hd c0
            replace c1 := cell_grown hd c1
            replace hWG := hWG.grown hd
            replace hSx := hSx.grown hd
            replace hTx := hTx.grown hd
            replace hb := below_then hb hd
            replace fr := (hWG.row i0 hi1).frozen k0
            clear hd
            generalize wr.drew = W6 at c0 c1 hWG hSx hTx hb fr ⊢
            have gb := lt_of_cell c1
            go_upto_region 24 with fail
            have hb2 := hb.setCell (p := ⟨g i0, k0, none⟩) (by have := hWG.low i0 hi1; simp only; omega) (.int .i64 (HM i0 k0 + y))
            replace hSx := HS0.out.1.grown hb2
            replace hTx := HS0.out.2.grown hb2
            have hGx := (hWG.put hi1 k0 (HM i0 k0 + y)).at
            replace hb := hb2
            clear hb2 hWG c0 c1 fr gb
            generalize W6.setCell ⟨g i0, k0, none⟩ (.int .i64 (HM i0 k0 + y)) = W7 at hb hSx hTx hGx ⊢
            generalize (fun j p => if j = i0 ∧ p = k0 then HM i0 k0 + y else HM j p) = F at hGx
            obtain ⟨G1, G2, -⟩ := HGL.out F
            have hR1 := hRO (gridL i M F) i xc (some ⟨ob, 0, none⟩) G1 (by have := HNM.out; omega) G2
            have hP1 := hP2 (gridL i M F) i (HM n m) G1 (by have := HNM.out; omega) G2
            have hV1 := hPV (gridL i M F) i xc (some ⟨ob, 0, none⟩) (HM n m) G1 (by have := HNM.out; omega) G2
            generalize proveM L R (gridL i M F) (HM n m) = v at hP1 hV1
            generalize gridL i M F = TT at hGx hR1 hP1 hV1
            have vv : (v == v) = true := by simp
            clear hRO hP2 hPV G1 G2 w1 w2 w3 w4 w5 w6 w7 w8 w9 hi0 hk0 hy hyb i2 k2 hhb hhb2
            go_wp2_with (first | (go_at_call_has 20 la; refine (hTL _ hSx).mono ?_; rintro e wq ⟨a, ac, rfl, hA, hAc, hq⟩; (try replace hSx := hSx.grown hq); (try replace hTx := hTx.grown hq); (try replace hGx := hGx.grown hq); (try replace hB := hB.grown hq); (try replace hPG := hPG.grown hq); (try replace hWG := hWG.grown hq); (try replace hRG := hRG.grown hq); replace hb := below_then hb hq; clear hq) | (go_at_call_has 20 ra; refine (hTR _ hTx).mono ?_; rintro e wq ⟨b, bc, rfl, hB, hBc, hq⟩; (try replace hSx := hSx.grown hq); (try replace hTx := hTx.grown hq); (try replace hGx := hGx.grown hq); (try replace hA := hA.grown hq); (try replace hPG := hPG.grown hq); (try replace hWG := hWG.grown hq); (try replace hRG := hRG.grown hq); replace hb := below_then hb hq; clear hq) | (go_at_call 18; refine (hwk _).mono ?_; rintro e wq ⟨rfl, hq⟩; (try replace hSx := hSx.grown hq); (try replace hTx := hTx.grown hq); (try replace hGx := hGx.grown hq); (try replace hA := hA.grown hq); (try replace hB := hB.grown hq); (try replace hPG := hPG.grown hq); (try replace hWG := hWG.grown hq); (try replace hRG := hRG.grown hq); replace hb := below_then hb hq; clear hq) | (go_at_call 33; refine (hR1 _ hGx).mono ?_; rintro e wq ⟨ga, gc, rfl, hRG, hq⟩; (try replace hSx := hSx.grown hq); (try replace hTx := hTx.grown hq); (try replace hGx := hGx.grown hq); (try replace hA := hA.grown hq); (try replace hB := hB.grown hq); (try replace hPG := hPG.grown hq); (try replace hWG := hWG.grown hq); replace hb := below_then hb hq; clear hq) | (go_at_call 32; refine (hP1 a ac b bc ga gc _ hA hB hAc hBc hRG).mono ?_; rintro e wq ⟨rfl, hq⟩; (try replace hSx := hSx.grown hq); (try replace hTx := hTx.grown hq); (try replace hGx := hGx.grown hq); (try replace hA := hA.grown hq); (try replace hB := hB.grown hq); (try replace hPG := hPG.grown hq); (try replace hWG := hWG.grown hq); (try replace hRG := hRG.grown hq); replace hb := below_then hb hq; clear hq) | (go_at_call 35; refine (hV1 _ hSx hTx hGx).mono ?_; rintro e wq ⟨rfl, hq⟩; (try replace hSx := hSx.grown hq); (try replace hTx := hTx.grown hq); (try replace hGx := hGx.grown hq); (try replace hA := hA.grown hq); (try replace hB := hB.grown hq); (try replace hPG := hPG.grown hq); (try replace hWG := hWG.grown hq); (try replace hRG := hRG.grown hq); replace hb := below_then hb hq; clear hq))
            go_ret
            exact ⟨rfl, hb⟩

end Go.Proofs.Ytohahlnhbppnhaa
