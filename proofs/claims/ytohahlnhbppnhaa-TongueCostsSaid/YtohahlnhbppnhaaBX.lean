/- Tongue, the laws: the cost of steps, which are differences, and their lines, against the reference. -/
import Derived.Test.YtohahlnhbppnhaaBW
import Derived.Test.YtohahlnhbppnhaaAZ
namespace Go.Proofs.Ytohahlnhbppnhaa
open Go.RowKit
set_option linter.unusedSimpArgs false
set_option linter.unusedVariables false

set_option maxRecDepth 100000 in
set_option maxHeartbeats 2000000 in
theorem costsLaw_any (L R : List Sen) (l : List (Int × Int)) (n m nc mc ns sc : Nat) (la ra sa : Option Addr) (w : World) (hL : L.length = n) (hR : R.length = m) (hnc : n ≤ nc) (hmc : m ≤ mc) (hn : n ≤ 9223372036854775807) (hm : m ≤ 9223372036854775807) (hl : l.length = ns) (hns : ns ≤ 9223372036854775807) (hS : TextAt w la L) (hT : TextAt w ra R) (hP : PairsAt w sa l) :
    Calls Try.prog 4 #[.slice la n nc, .slice ra m mc, .slice sa ns sc] w fun e w' => e = .returned (.bool true) ∧ Below w.heap.size w w' := by
  have hfw := few_any L R n m nc mc la ra w hL hR hn hm hS hT
  have hwk := fun W => wakes_any W
  obtain ⟨r, hre⟩ : ∃ r, fewM L R = r := ⟨_, rfl⟩
  rw [hre] at hfw
  have hb : Below w.heap.size w w := Below.refl _ _
  by_cases hg : r = true ∧ ns ≤ 45
  case neg =>
    clear hS hT hP hL hR hre
    by_cases hr : r = true
    · subst hr
      have h45' : (45 : Int) < (ns : Int) := by
        rcases Nat.lt_or_ge 45 ns with h | h
        · omega
        · exact absurd ⟨rfl, h⟩ hg
      clear hg
      go_enter Try.func4, Try.ntmps4
      go_wp2_with (first | (go_at_call 16; refine hfw.mono ?_; rintro e w1 ⟨rfl, rfl⟩) | (go_at_call 18; refine (hwk _).mono ?_; rintro e w2 ⟨rfl, hb2⟩))
      go_ret
      exact ⟨rfl, hb2⟩
    · have hr : r = false := by simpa using hr
      subst hr
      clear hg
      go_enter Try.func4, Try.ntmps4
      go_wp2_with (first | (go_at_call 16; refine hfw.mono ?_; rintro e w1 ⟨rfl, rfl⟩) | (go_at_call 18; refine (hwk _).mono ?_; rintro e w2 ⟨rfl, hb2⟩))
      go_ret
      exact ⟨rfl, hb2⟩
  obtain ⟨rfl, h45⟩ := hg
  obtain ⟨k1, k2, k3, k4⟩ := few_parts hre
  have sL := fine_small ⟨k1, k3⟩
  have sR := fine_small ⟨k2, k4⟩
  have hn22 : n ≤ 22 := by omega
  have hm22 : m ≤ 22 := by omega
  have q3 : ∀ s ∈ L, s.marks.length ≤ 1000 := fun s hs => by have := k3 s hs; omega
  have q4 : ∀ s ∈ R, s.marks.length ≤ 1000 := fun s hs => by have := k4 s hs; omega
  have hTL := fun W hS => text_any L n nc la W hL (by omega) q3 hS
  have hTR := fun W hT => text_any R m mc ra W hR (by omega) q4 hT
  have hST := fun W hP => steps_any l ns sc sa W hl (by omega) hP
  have hCO := fun a ac b bc ss ssc W hA hB h1 h2 hP => costOf_any L R n ac m bc a b W hL hR sL sR hA hB h1 h2 l ns ssc ss hl (by omega) hP
  have hDO := fun a ac b bc ss ssc W hA hB h1 h2 hP => diffsOf_any L R n ac m bc a b W hL hR sL sR hA hB h1 h2 l ns ssc ss hl (by omega) hP
  have hEO := fun a ac b bc ss ssc W hA hB h1 h2 hP => levelOf_any L R n ac m bc a b W hL hR sL sR hA hB h1 h2 l ns ssc ss hl (by omega) hP
  have hMA := fun W hS hT hP => matched_any L R l n m nc mc ns sc la ra sa W hL hR (by omega) (by omega) q3 q4 hS hT hl (by omega) hP
  have g45 : ¬ (45 : Int) < (ns : Int) := by omega
  have hSx := hS
  have hTx := hT
  have hPx := hP
  have HL := hid hL
  have HR := hid hR
  have HLS := hid hl
  by_cases hz : matchedE L R l = 0
  case neg =>
    have hme : (faultM L R ≠ 0 ∧ matchedE L R l = faultM L R) ∨ (faultM L R = 0 ∧ matchM n m l = none ∧ matchedE L R l = 9) := by
      unfold matchedE at hz ⊢
      by_cases h0 : faultM L R = 0
      · right
        rw [if_pos h0, isM_match, hL, hR] at hz ⊢
        cases hmm : matchM n m l with
        | none => exact ⟨h0, rfl, by simp⟩
        | some ms => rw [hmm] at hz; simp at hz
      · exact .inl ⟨h0, if_neg h0⟩
    have HME := hid hme
    generalize matchedE L R l = z at hMA hz HME
    have hCC : ∀ a ac b bc ss ssc W, TextAt W a L → TextAt W b R → n ≤ ac → m ≤ bc → PairsAt W ss l → Calls Try.prog 23 #[.slice a n ac, .slice b m bc, .slice ss ns ssc] W fun e w' => e = .returned (.tuple #[.int .i64 0, .int .i64 z]) ∧ Below W.heap.size W w' := fun a ac b bc ss ssc W hA hB h1 h2 hP => by
      refine (hCO a ac b bc ss ssc W hA hB h1 h2 hP).mono ?_
      rintro e w' ⟨hb, hc⟩
      rw [HL.out, HR.out] at hc
      rcases HME.out with ⟨h0, he⟩ | ⟨h0, hm, he⟩
      · rcases hc with ⟨-, rfl⟩ | ⟨h, -⟩ | ⟨h, -⟩
        · exact ⟨by rw [he], hb⟩
        · exact absurd h h0
        · exact absurd h h0
      · rcases hc with ⟨h, -⟩ | ⟨-, -, rfl⟩ | ⟨-, ms, hmm, -⟩
        · exact absurd h0 h
        · exact ⟨by rw [he], hb⟩
        · rw [hm] at hmm; cases hmm
    have hCD : ∀ a ac b bc ss ssc W, TextAt W a L → TextAt W b R → n ≤ ac → m ≤ bc → PairsAt W ss l → Calls Try.prog 25 #[.slice a n ac, .slice b m bc, .slice ss ns ssc] W fun e w' => e = .returned (.tuple #[.slice none 0 0, .int .i64 z]) ∧ Below W.heap.size W w' := fun a ac b bc ss ssc W hA hB h1 h2 hP => by
      refine (hDO a ac b bc ss ssc W hA hB h1 h2 hP).mono ?_
      rintro e w' ⟨hb, hc⟩
      rw [HL.out, HR.out] at hc
      rcases HME.out with ⟨h0, he⟩ | ⟨h0, hm, he⟩
      · rcases hc with ⟨-, rfl⟩ | ⟨h, -⟩ | ⟨h, -⟩
        · exact ⟨by rw [he], hb⟩
        · exact absurd h h0
        · exact absurd h h0
      · rcases hc with ⟨h, -⟩ | ⟨-, -, rfl⟩ | ⟨-, ms, _, _, hmm, -⟩
        · exact absurd h0 h
        · exact ⟨by rw [he], hb⟩
        · rw [hm] at hmm; cases hmm
    have hCE : ∀ a ac b bc ss ssc W, TextAt W a L → TextAt W b R → n ≤ ac → m ≤ bc → PairsAt W ss l → Calls Try.prog 26 #[.slice a n ac, .slice b m bc, .slice ss ns ssc] W fun e w' => e = .returned (.tuple #[.slice none 0 0, .int .i64 0, .int .i64 0, .int .i64 z]) ∧ Below W.heap.size W w' := fun a ac b bc ss ssc W hA hB h1 h2 hP => by
      refine (hEO a ac b bc ss ssc W hA hB h1 h2 hP).mono ?_
      rintro e w' ⟨hb, hc⟩
      rw [HL.out, HR.out] at hc
      rcases HME.out with ⟨h0, he⟩ | ⟨h0, hm, he⟩
      · rcases hc with ⟨-, rfl⟩ | ⟨h, -⟩ | ⟨h, -⟩
        · exact ⟨by rw [he], hb⟩
        · exact absurd h h0
        · exact absurd h h0
      · rcases hc with ⟨h, -⟩ | ⟨-, -, rfl⟩ | ⟨-, ms, _, _, hmm, -⟩
        · exact absurd h0 h
        · exact ⟨by rw [he], hb⟩
        · rw [hm] at hmm; cases hmm
    have z0 : (z == 0) = false := by simpa using hz
    have z1 : (z != 0) = true := by simpa using hz
    have z2 : (z == z) = true := by simp
    clear k1 k2 k3 k4 sL sR q3 q4 hL hR hl hS hT hP hre hCO hDO hEO HME hz h45
    go_enter Try.func4, Try.ntmps4
    go_wp2_with (first | (go_at_call 16; refine hfw.mono ?_; rintro e wq ⟨rfl, rfl⟩) | (go_at_call_has 20 la; refine (hTL _ hSx).mono ?_; rintro e wq ⟨a, ac, rfl, hA, hAc, hq⟩; replace hSx := hSx.grown hq; replace hTx := hTx.grown hq; replace hPx := hPx.grown hq; replace hb := below_then hb hq; clear hq) | (go_at_call_has 20 ra; refine (hTR _ hTx).mono ?_; rintro e wq ⟨b, bc, rfl, hB, hBc, hq⟩; replace hA := hA.grown hq; replace hSx := hSx.grown hq; replace hTx := hTx.grown hq; replace hPx := hPx.grown hq; replace hb := below_then hb hq; clear hq) | (go_at_call 24; refine (hST _ hPx).mono ?_; rintro e wq ⟨ss, ssc, rfl, hPs, hq⟩; replace hA := hA.grown hq; replace hB := hB.grown hq; replace hSx := hSx.grown hq; replace hTx := hTx.grown hq; replace hPx := hPx.grown hq; replace hb := below_then hb hq; clear hq) | (go_at_call 23; refine (hCC a ac b bc ss ssc _ hA hB hAc hBc hPs).mono ?_; rintro e wq ⟨rfl, hq⟩; clear hA hB hPs; replace hSx := hSx.grown hq; replace hTx := hTx.grown hq; replace hPx := hPx.grown hq; replace hb := below_then hb hq; clear hq) | (go_at_call 25; refine (hCD a ac b bc ss ssc _ hA hB hAc hBc hPs).mono ?_; rintro e wq ⟨rfl, hq⟩; clear hA hB hPs; replace hSx := hSx.grown hq; replace hTx := hTx.grown hq; replace hPx := hPx.grown hq; replace hb := below_then hb hq; clear hq) | (go_at_call 26; refine (hCE a ac b bc ss ssc _ hA hB hAc hBc hPs).mono ?_; rintro e wq ⟨rfl, hq⟩; clear hA hB hPs; replace hSx := hSx.grown hq; replace hTx := hTx.grown hq; replace hPx := hPx.grown hq; replace hb := below_then hb hq; clear hq) | (go_at_call 27; refine (hMA _ hSx hTx hPx).mono ?_; rintro e wq ⟨rfl, hq⟩; replace hSx := hSx.grown hq; replace hTx := hTx.grown hq; replace hPx := hPx.grown hq; replace hb := below_then hb hq; clear hq) | (go_at_call 18; refine (hwk _).mono ?_; rintro e wq ⟨rfl, hq⟩; replace hb := below_then hb hq; clear hq))
    go_ret
    exact ⟨rfl, hb⟩
  have hz2 : faultM L R = 0 ∧ ∃ ms, matchM n m l = some ms := by
    unfold matchedE at hz
    by_cases h0 : faultM L R = 0
    · refine ⟨h0, ?_⟩
      rw [if_pos h0, isM_match, hL, hR] at hz
      cases hmm : matchM n m l with
      | none => rw [hmm] at hz; simp at hz
      | some ms => exact ⟨ms, rfl⟩
    · rw [if_neg h0] at hz; exact absurd hz h0
  obtain ⟨hf0, ms, hmm⟩ := hz2
  rw [hz] at hMA
  obtain ⟨l1, l2, v1, v2⟩ := fault_zero hf0
  have fL := fineR_of l1 v1
  have fR := fineR_of l2 v2
  have zL : SizesOk L := fun s hs => ((fine_of L l1 v1).2.2 s hs).2
  have zR : SizesOk R := fun s hs => ((fine_of R l2 v2).2.2 s hs).2
  have hml : ms.length = ns := by rw [(match_fits hmm).1, hl]
  have hRC := fun W hS hT hP => refCost_any L R l ms n m ns nc mc sc la ra sa W hL hR (by omega) (by omega) hnc hmc fL fR hl (by omega) hmm hS hT hP
  have hRD := fun W hS hT hP => refDiffs_any L R l ms n m ns nc mc sc la ra sa W hL hR (by omega) (by omega) hnc hmc fL fR hl (by omega) hmm hS hT hP
  have hRL := fun W hS hT hP => refLevel_any L R l ms n m ns nc mc sc la ra sa W hL hR (by omega) (by omega) hnc hmc zL zR hl (by omega) hmm hS hT hP
  have HMM := hid hmm
  have HF0 := hid hf0
  have hCC : ∀ a ac b bc ss ssc W, TextAt W a L → TextAt W b R → n ≤ ac → m ≤ bc → PairsAt W ss l → Calls Try.prog 23 #[.slice a n ac, .slice b m bc, .slice ss ns ssc] W fun e w' => e = .returned (.tuple #[.int .i64 (costM L R ms : Nat), .int .i64 0]) ∧ Below W.heap.size W w' := fun a ac b bc ss ssc W hA hB h1 h2 hP => by
    refine (hCO a ac b bc ss ssc W hA hB h1 h2 hP).mono ?_
    rintro e w' ⟨hb, hc⟩
    rw [HL.out, HR.out] at hc
    rcases hc with ⟨h, -⟩ | ⟨-, h, -⟩ | ⟨-, ms', hmm', rfl⟩
    · exact absurd HF0.out h
    · rw [HMM.out] at h; cases h
    · rw [HMM.out] at hmm'; cases hmm'; exact ⟨rfl, hb⟩
  have hCD : ∀ a ac b bc ss ssc W, TextAt W a L → TextAt W b R → n ≤ ac → m ≤ bc → PairsAt W ss l → Calls Try.prog 25 #[.slice a n ac, .slice b m bc, .slice ss ns ssc] W fun e w' => ∃ da dc, e = .returned (.tuple #[.slice da (difsM L R ms ns).length dc, .int .i64 0]) ∧ IntsAt w' da (difsM L R ms ns) ∧ Below W.heap.size W w' := fun a ac b bc ss ssc W hA hB h1 h2 hP => by
    refine (hDO a ac b bc ss ssc W hA hB h1 h2 hP).mono ?_
    rintro e w' ⟨hb, hc⟩
    rw [HL.out, HR.out] at hc
    rcases hc with ⟨h, -⟩ | ⟨-, h, -⟩ | ⟨-, ms', da, dc, hmm', rfl, hI⟩
    · exact absurd HF0.out h
    · rw [HMM.out] at h; cases h
    · rw [HMM.out] at hmm'; cases hmm'; rw [hml] at hI; exact ⟨da, dc, by rw [hml], hI, hb⟩
  have hCE : ∀ a ac b bc ss ssc W, TextAt W a L → TextAt W b R → n ≤ ac → m ≤ bc → PairsAt W ss l → Calls Try.prog 26 #[.slice a n ac, .slice b m bc, .slice ss ns ssc] W fun e w' => ∃ da dc, e = .returned (.tuple #[.slice da ns dc, .int .i64 (linesM L R ms ns), .int .i64 (blankM L R ms ns), .int .i64 0]) ∧ IntsAt w' da (beginsM L R ms ns) ∧ Below W.heap.size W w' := fun a ac b bc ss ssc W hA hB h1 h2 hP => by
    refine (hEO a ac b bc ss ssc W hA hB h1 h2 hP).mono ?_
    rintro e w' ⟨hb, hc⟩
    rw [HL.out, HR.out] at hc
    rcases hc with ⟨h, -⟩ | ⟨-, h, -⟩ | ⟨-, ms', da, dc, hmm', rfl, hI⟩
    · exact absurd HF0.out h
    · rw [HMM.out] at h; cases h
    · rw [HMM.out] at hmm'; cases hmm'; rw [hml] at hI; exact ⟨da, dc, by rw [hml], hI, hb⟩
  have hdl := difsM_le L R ms ns
  have hbl := beginsM_length L R ms ns
  obtain ⟨dl, hdl2⟩ : ∃ q, (difsM L R ms ns).length = q := ⟨_, rfl⟩
  have hI1 := fun c d a b W hA hB => ints_same (difsM L R ms ns) dl c d a b W hdl2 (by omega) hA hB
  have hI2 := fun c d a b W hA hB => ints_same (beginsM L R ms ns) ns c d a b W hbl (by omega) hA hB
  simp only [hdl2] at hCD hRD
  generalize difsM L R ms ns = D at hCD hRD hI1
  generalize beginsM L R ms ns = B at hCE hRL hI2
  generalize linesM L R ms ns = z1 at hCE hRL
  generalize blankM L R ms ns = z2 at hCE hRL
  generalize costM L R ms = z3 at hCC hRC
  have e1 : (z1 == z1) = true := by simp
  have e2 : (z2 == z2) = true := by simp
  have e3 : ((z3 : Int) == (z3 : Int)) = true := by simp
  clear k1 k2 k3 k4 sL sR q3 q4 hL hR hl hS hT hP hre hCO hDO hEO hz h45 l1 l2 v1 v2 fL fR zL zR hml hmm hf0 hdl hbl hdl2 HMM HF0 HLS HL HR
  go_enter Try.func4, Try.ntmps4
  go_wp2_with (first | (go_at_call 16; refine hfw.mono ?_; rintro e wq ⟨rfl, rfl⟩) | (go_at_call_has 20 la; refine (hTL _ hSx).mono ?_; rintro e wq ⟨a, ac, rfl, hA, hAc, hq⟩; (try replace hDI := hDI.grown hq); replace hSx := hSx.grown hq; replace hTx := hTx.grown hq; replace hPx := hPx.grown hq; replace hb := below_then hb hq; clear hq) | (go_at_call_has 20 ra; refine (hTR _ hTx).mono ?_; rintro e wq ⟨b, bc, rfl, hB, hBc, hq⟩; replace hA := hA.grown hq; (try replace hDI := hDI.grown hq); replace hSx := hSx.grown hq; replace hTx := hTx.grown hq; replace hPx := hPx.grown hq; replace hb := below_then hb hq; clear hq) | (go_at_call 24; refine (hST _ hPx).mono ?_; rintro e wq ⟨ss, ssc, rfl, hPs, hq⟩; replace hA := hA.grown hq; replace hB := hB.grown hq; (try replace hDI := hDI.grown hq); replace hSx := hSx.grown hq; replace hTx := hTx.grown hq; replace hPx := hPx.grown hq; replace hb := below_then hb hq; clear hq) | (go_at_call 23; refine (hCC a ac b bc ss ssc _ hA hB hAc hBc hPs).mono ?_; rintro e wq ⟨rfl, hq⟩; clear hA hB hPs; replace hSx := hSx.grown hq; replace hTx := hTx.grown hq; replace hPx := hPx.grown hq; replace hb := below_then hb hq; clear hq) | (go_at_call 25; refine (hCD a ac b bc ss ssc _ hA hB hAc hBc hPs).mono ?_; rintro e wq ⟨da, dc, rfl, hDI, hq⟩; clear hA hB hPs; replace hSx := hSx.grown hq; replace hTx := hTx.grown hq; replace hPx := hPx.grown hq; replace hb := below_then hb hq; clear hq) | (go_at_call 26; refine (hCE a ac b bc ss ssc _ hA hB hAc hBc hPs).mono ?_; rintro e wq ⟨ba, bc2, rfl, hBI, hq⟩; clear hA hB hPs; (try replace hDI := hDI.grown hq); replace hSx := hSx.grown hq; replace hTx := hTx.grown hq; replace hPx := hPx.grown hq; replace hb := below_then hb hq; clear hq) | (go_at_call 27; refine (hMA _ hSx hTx hPx).mono ?_; rintro e wq ⟨rfl, hq⟩; (try replace hDI := hDI.grown hq); (try replace hBI := hBI.grown hq); replace hSx := hSx.grown hq; replace hTx := hTx.grown hq; replace hPx := hPx.grown hq; replace hb := below_then hb hq; clear hq) | (go_at_call 18; refine (hwk _).mono ?_; rintro e wq ⟨rfl, hq⟩; replace hb := below_then hb hq; clear hq) | (go_at_call 28; refine (hRL _ hSx hTx hPx).mono ?_; rintro e wq ⟨xa, xc, rfl, hXI, hq⟩; replace hDI := hDI.grown hq; replace hBI := hBI.grown hq; replace hSx := hSx.grown hq; replace hTx := hTx.grown hq; replace hPx := hPx.grown hq; replace hb := below_then hb hq; clear hq) | (go_at_call 22; refine (hRC _ hSx hTx hPx).mono ?_; rintro e wq ⟨rfl, hq⟩; replace hDI := hDI.grown hq; replace hBI := hBI.grown hq; replace hXI := hXI.grown hq; replace hSx := hSx.grown hq; replace hTx := hTx.grown hq; replace hPx := hPx.grown hq; replace hb := below_then hb hq; clear hq) | (go_at_call 30; refine (hRD _ hSx hTx hPx).mono ?_; rintro e wq ⟨ya, yc, rfl, hYI, hq⟩; replace hDI := hDI.grown hq; replace hBI := hBI.grown hq; replace hXI := hXI.grown hq; replace hSx := hSx.grown hq; replace hTx := hTx.grown hq; replace hPx := hPx.grown hq; replace hb := below_then hb hq; clear hq) | (go_at_call_has 29 ya; refine (hI1 _ _ _ _ _ hDI hYI).mono ?_; rintro e wq ⟨rfl, hq⟩; replace hBI := hBI.grown hq; replace hXI := hXI.grown hq; replace hSx := hSx.grown hq; replace hTx := hTx.grown hq; replace hPx := hPx.grown hq; replace hb := below_then hb hq; clear hq) | (go_at_call_has 29 xa; refine (hI2 _ _ _ _ _ hBI hXI).mono ?_; rintro e wq ⟨rfl, hq⟩; replace hSx := hSx.grown hq; replace hTx := hTx.grown hq; replace hPx := hPx.grown hq; replace hb := below_then hb hq; clear hq))
  go_ret
  exact ⟨rfl, hb⟩

end Go.Proofs.Ytohahlnhbppnhaa
