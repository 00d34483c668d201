/- Tongue, the laws: the report that counts, against the reference. -/
import Derived.Test.YtohahlnhbppnhaaBP
namespace Go.Proofs.Ytohahlnhbppnhaa
open Go.RowKit
set_option linter.unusedSimpArgs false
set_option linter.unusedVariables false

set_option maxRecDepth 100000 in
set_option maxHeartbeats 2000000 in
theorem countsLaw_any (L R : List Sen) (l : List (Int × Int)) (lead : List Bool) (n m nc mc ns sc ln lc : Nat) (la ra sa ld : Option Addr) (w : World) (hL : L.length = n) (hR : R.length = m) (hn : n ≤ 9223372036854775807) (hm : m ≤ 9223372036854775807) (hl : l.length = ns) (hns : ns ≤ 9223372036854775807) (hln : lead.length = ln) (hln2 : ln ≤ 9223372036854775807) (hS : TextAt w la L) (hT : TextAt w ra R) (hP : PairsAt w sa l) (hLd : BoolsAt w ld lead) :
    Calls Try.prog 6 #[.slice la n nc, .slice ra m mc, .slice sa ns sc, .slice ld ln lc] w fun e w' => e = .returned (.bool true) ∧ Below w.heap.size w w' := by
  have hfw := few_any L R n m nc mc la ra w hL hR hn hm hS hT
  have hwk := fun W => wakes_any W
  obtain ⟨r, hre⟩ : ∃ r, fewM L R = r := ⟨_, rfl⟩
  rw [hre] at hfw
  have hb : Below w.heap.size w w := Below.refl _ _
  by_cases hg : r = true ∧ ns ≤ 45 ∧ ln ≤ 25
  case neg =>
    clear hS hT hP hLd hL hR hre
    by_cases hr : r = true
    · subst hr
      by_cases h45 : ns ≤ 45
      · have h25 : (25 : Int) < (ln : Int) := by
          rcases Nat.lt_or_ge 25 ln with h | h
          · omega
          · exact absurd ⟨rfl, h45, h⟩ hg
        have h45' : ¬ (45 : Int) < (ns : Int) := by omega
        clear hg h45
        go_enter Try.func6, Try.ntmps6
        go_wp2_with (first | (go_at_call 16; refine hfw.mono ?_; rintro e w1 ⟨rfl, rfl⟩) | (go_at_call 18; refine (hwk _).mono ?_; rintro e w2 ⟨rfl, hb2⟩))
        go_ret
        exact ⟨rfl, hb2⟩
      · have h45' : (45 : Int) < (ns : Int) := by omega
        clear hg h45
        go_enter Try.func6, Try.ntmps6
        go_wp2_with (first | (go_at_call 16; refine hfw.mono ?_; rintro e w1 ⟨rfl, rfl⟩) | (go_at_call 18; refine (hwk _).mono ?_; rintro e w2 ⟨rfl, hb2⟩))
        go_ret
        exact ⟨rfl, hb2⟩
    · have hr : r = false := by simpa using hr
      subst hr
      clear hg
      go_enter Try.func6, Try.ntmps6
      go_wp2_with (first | (go_at_call 16; refine hfw.mono ?_; rintro e w1 ⟨rfl, rfl⟩) | (go_at_call 18; refine (hwk _).mono ?_; rintro e w2 ⟨rfl, hb2⟩))
      go_ret
      exact ⟨rfl, hb2⟩
  obtain ⟨rfl, h45, h25⟩ := hg
  obtain ⟨k1, k2, k3, k4⟩ := few_parts hre
  have sL := fine_small ⟨k1, k3⟩
  have sR := fine_small ⟨k2, k4⟩
  have hn22 : n ≤ 22 := by omega
  have hm22 : m ≤ 22 := by omega
  have q3 : ∀ s ∈ L, s.marks.length ≤ 1000 := fun s hs => by have := k3 s hs; omega
  have q4 : ∀ s ∈ R, s.marks.length ≤ 1000 := fun s hs => by have := k4 s hs; omega
  have hTL := fun W hS => text_any L n nc la W hL (by omega) q3 hS
  have hTR := fun W hT => text_any R m mc ra W hR (by omega) q4 hT
  have hST := fun W hP => steps_any l ns sc sa W hl (by omega) hP
  have hCO := fun a ac b bc ss ssc ll llc W hA hB h1 h2 hP hLd => countsOf_any L R n ac m bc a b W hL hR sL sR hA hB h1 h2 l ns ssc ss hl (by omega) hP lead ln llc ll hln (by omega) hLd
  have hMA := fun W hS hT hP => matched_any L R l n m nc mc ns sc la ra sa W hL hR (by omega) (by omega) q3 q4 hS hT hl (by omega) hP
  have hRC := fun ms W (hmm : matchM n m l = some ms) (hll : lead.length = n) hP hLd => refCounts_any l lead ms n m ns sc lc sa ld W hl (by omega) (by omega) (by omega) hmm hll hP hLd
  have HME : Hid (matchedE L R l = if faultM L R = 0 then (if isM n m l then 0 else 9) else faultM L R) := hid (by unfold matchedE; rw [hL, hR])
  have HLN := hid hln
  have HBD : Hid (0 + ln ≤ 1000000) := hid (by omega)
  have HL := hid hL
  have HR := hid hR
  have HLS := hid hl
  have g45 : ¬ (45 : Int) < (ns : Int) := by omega
  have g25 : ¬ (25 : Int) < (ln : Int) := by omega
  obtain ⟨i0, hi0, hz0, hz1, hz2⟩ := info_parts Try.info4
  have hSx := hS
  have hTx := hT
  have hPx := hP
  have hDx := hLd
  clear k1 k2 k3 k4 sL sR q3 q4 hL hR hl hln hS hT hP hLd hre h45 h25
  go_enter Try.func6, Try.ntmps6
  go_upto_region 3 with (go_at_call 16; refine hfw.mono ?_; rintro e wq ⟨rfl, rfl⟩)
  clear hfw g45 g25
  go_upto_region 4 with (first | (go_at_call_has 20 la; refine (hTL _ hSx).mono ?_; rintro e wq ⟨a, ac, rfl, hA, hAc, hq⟩; replace hSx := hSx.grown hq; replace hTx := hTx.grown hq; replace hPx := hPx.grown hq; replace hDx := hDx.grown hq; replace hb := below_then hb hq; clear hq) | (go_at_call_has 20 ra; refine (hTR _ hTx).mono ?_; rintro e wq ⟨b, bc, rfl, hB, hBc, hq⟩; replace hSx := hSx.grown hq; replace hTx := hTx.grown hq; replace hPx := hPx.grown hq; replace hDx := hDx.grown hq; replace hA := hA.grown hq; replace hb := below_then hb hq; clear hq) | (go_at_call 24; refine (hST _ hPx).mono ?_; rintro e wq ⟨ss, ssc, rfl, hPs, hq⟩; replace hSx := hSx.grown hq; replace hTx := hTx.grown hq; replace hPx := hPx.grown hq; replace hDx := hDx.grown hq; replace hA := hA.grown hq; replace hB := hB.grown hq; replace hb := below_then hb hq; clear hq) | (at_builtin; refine wpList_append_bools rfl _ _ 61 rfl wq.heap.size i0 Try.underlying61 hi0 hz0 hz1 hz2 _ 0 _ rfl (World.ownsRow_made (base := wq.heap.size) (e := 4) (size := 1) wq #[] 0 (Nat.le_refl _) (Nat.zero_le _) rfl) ld ln lc lead rfl HLN.out (hDx.grown (below_alloc wq (.cells #[] 4))) HBD.out (below_alloc wq (.cells #[] 4)).size ?_; intro v' w' hown' hg'; rw [Nat.zero_add, List.nil_append] at hown'; obtain ⟨ll, llc, rfl⟩ := owns_shape hown'; have hDl := bools_of_owns (l := lead) (a := ll) (cap := llc) (W := w') (by rw [HLN.out]; exact hown'); have hg2 : (wq.alloc (.cells #[] 4)).grownBy w' (some wq.heap.size) := hg'; have hq : Below wq.heap.size wq w' := (below_alloc wq (.cells #[] 4)).grown hg2 (below_alloc wq (.cells #[] 4)).size (fun r e => by cases e; exact Nat.le_refl _); clear hown' hg' hg2; replace hSx := hSx.grown hq; replace hTx := hTx.grown hq; replace hPx := hPx.grown hq; replace hDx := hDx.grown hq; replace hA := hA.grown hq; replace hB := hB.grown hq; replace hPs := hPs.grown hq; replace hb := below_then hb hq; clear hq) | (go_at_call 36; refine (hCO a ac b bc ss ssc ll llc _ hA hB hAc hBc hPs hDl).mono ?_; unfold CountsPost; rw [HL.out, HR.out, HLN.out]; rintro e wq ⟨hq, hcase⟩; clear hA hB hPs hDl; replace hSx := hSx.grown hq; replace hTx := hTx.grown hq; replace hPx := hPx.grown hq; replace hDx := hDx.grown hq; replace hb := below_then hb hq; clear hq; obtain ⟨hne, rfl⟩ | ⟨hz, hmm, rfl⟩ | ⟨hz, ⟨ms, hmm⟩, hll, rfl⟩ | ⟨hz, hll, ms, pa, pc, hmm, rfl, hPA, hPl⟩ := hcase))
  · have hme : matchedE L R l = faultM L R := by rw [HME.out, if_neg hne]
    have hMA' := hMA _ hSx hTx hPx
    rw [hme] at hMA'
    generalize faultM L R = z at hne hMA'
    have z0 : (z == 0) = false := by simpa using hne
    have z1 : (z != 0) = true := by simpa using hne
    clear hMA hRC hCO hTL hTR hST hSx hTx hPx hDx hne
    go_wp2_with (first | (go_at_call 27; refine hMA'.mono ?_; rintro e wq ⟨rfl, hq⟩; replace hb := below_then hb hq; clear hq) | (go_at_call 18; refine (hwk _).mono ?_; rintro e wq ⟨rfl, hq⟩; replace hb := below_then hb hq; clear hq))
    go_ret
    exact ⟨rfl, hb⟩
  · have hme : matchedE L R l = 9 := by rw [HME.out, if_pos hz, isM_match, hmm]; rfl
    have hMA' := hMA _ hSx hTx hPx
    rw [hme] at hMA'
    clear hMA hRC hCO hTL hTR hST hSx hTx hPx hDx hz hmm hme
    go_wp2_with (first | (go_at_call 27; refine hMA'.mono ?_; rintro e wq ⟨rfl, hq⟩; replace hb := below_then hb hq; clear hq) | (go_at_call 18; refine (hwk _).mono ?_; rintro e wq ⟨rfl, hq⟩; replace hb := below_then hb hq; clear hq))
    go_ret
    exact ⟨rfl, hb⟩
  · have hme : matchedE L R l = 0 := by rw [HME.out, if_pos hz, isM_match, hmm]; rfl
    have hMA' := hMA _ hSx hTx hPx
    rw [hme] at hMA'
    have hlx : ((ln : Int) != (n : Int)) = true := by simp; omega
    clear hMA hRC hCO hTL hTR hST hSx hTx hPx hDx hz hmm hme hll
    go_wp2_with (first | (go_at_call 27; refine hMA'.mono ?_; rintro e wq ⟨rfl, hq⟩; replace hb := below_then hb hq; clear hq) | (go_at_call 18; refine (hwk _).mono ?_; rintro e wq ⟨rfl, hq⟩; replace hb := below_then hb hq; clear hq))
    go_ret
    exact ⟨rfl, hb⟩
  · have hme : matchedE L R l = 0 := by rw [HME.out, if_pos hz, isM_match, hmm]; rfl
    have hMA' := hMA _ hSx hTx hPx
    rw [hme] at hMA'
    subst hll
    have hml : ms.length = ns := by rw [(match_fits hmm).1, HLS.out]
    have hRC' := fun W => hRC ms W hmm HLN.out
    rw [hml] at hPA hPl
    simp only [hml]
    have hcb : (countM lead ms ns).length ≤ 90 := by omega
    generalize countM lead ms ns = C at hPA hPl hRC' hcb ⊢
    clear hMA hRC hCO hTL hTR hST hz hmm hme hml hTx hSx
    obtain ⟨q, hq0⟩ : ∃ q, C.length = q := ⟨_, rfl⟩
    rw [hq0] at hRC' hcb
    simp only [hq0]
    have HQ0 := hid hq0
    clear hq0 hPl
    go_wp2_with (first | (go_at_call 27; refine hMA'.mono ?_; rintro e wq ⟨rfl, hq⟩; replace hPx := hPx.grown hq; replace hDx := hDx.grown hq; replace hPA := hPA.grown hq; replace hb := below_then hb hq; clear hq) | (go_at_call 37; refine (hRC' _ hPx hDx).mono ?_; rintro e wq ⟨pb, pd, rfl, hPB, -, hq⟩; replace hPA := hPA.grown hq; replace hb := below_then hb hq; clear hq))
    go_loopw [13] (fun i wr => ∃ j : Nat, j ≤ q ∧ i = .int .i64 j ∧ Below wq.heap.size wq wr) (fun i _ => q - (intOf i).toNat)
    case atStart => exact ⟨0, Nat.zero_le _, rfl, Below.refl _ _⟩
    case round =>
      obtain ⟨j, hj, rfl, hBr⟩ := hrel
      by_cases hlt : j < q
      · have hlt' : (j : Int) < (q : Int) := by omega
        have hj0 : (0 : Int) ≤ (j : Int) := by omega
        obtain ⟨b1, o1, e1, c1, c2⟩ := (hPA.grown hBr) j (by rw [HQ0.out]; exact hlt)
        obtain ⟨b2, o2, e2, d1, d2⟩ := (hPB.grown hBr) j (by rw [HQ0.out]; exact hlt)
        subst e1 e2
        generalize (C.getD j (0, 0)).1 = x at c1 d1
        generalize (C.getD j (0, 0)).2 = y at c2 d2
        have g1 := lt_of_cell c1
        have g2 := lt_of_cell d1
        go_wp2_with fail
        have oa : ∀ p : Over wr, p.w.cell? ⟨b1, o1 + j * 2, none⟩ = some (.int .u8 x) := fun p => p.cell c1
        have ob : ∀ p : Over wr, p.w.cell? ⟨b1, o1 + j * 2 + 1, none⟩ = some (.int .i64 y) := fun p => p.cell c2
        have oc : ∀ p : Over wr, p.w.cell? ⟨b2, o2 + j * 2, none⟩ = some (.int .u8 x) := fun p => p.cell d1
        have od : ∀ p : Over wr, p.w.cell? ⟨b2, o2 + j * 2 + 1, none⟩ = some (.int .i64 y) := fun p => p.cell d2
        refine wp_region_over wr (Below.refl _ _) (by kernel_rfl) (by kernel_rfl) ?_
        repeat (go_big_quiet_step (fail))
        refine wpQuiet_nil ?_
        intro wz hw'
        have hbz := over_below hw'
        clear hw' oa ob oc od
        go_wp2_with fail
        go_roundw
        case rel => exact ⟨j + 1, by omega, by go_num, hBr.trans (hbz.mono hBr.size)⟩
        case measure => simp [intOf]; omega
      · have hjn : j = q := by omega
        subst hjn
        replace hb := hb.trans (hBr.mono hb.size)
        go_wp2_with (go_at_call 18; refine (hwk _).mono ?_; rintro e wq ⟨rfl, hq⟩; replace hb := below_then hb hq; clear hq)
        go_ret
        exact ⟨rfl, hb⟩
end Go.Proofs.Ytohahlnhbppnhaa
