/- Tongue, the laws: level columns of a match that is chosen. -/
import Derived.Test.YtohahlnhbppnhaaBA
import Derived.Test.YtohahlnhbppnhaaBB
namespace Go.Proofs.Ytohahlnhbppnhaa
open Go.RowKit
set_option linter.unusedSimpArgs false
set_option linter.unusedVariables false

set_option maxRecDepth 100000 in
set_option maxHeartbeats 2000000 in
theorem levelLaw_any (L R : List Sen) (ws : List Int) (n m nc mc wn wc : Nat) (la ra wa : Option Addr) (w : World) (hL : L.length = n) (hR : R.length = m) (hn : n ≤ 9223372036854775807) (hm : m ≤ 9223372036854775807) (hw : ws.length = wn) (hwn : wn ≤ 9223372036854775807) (hS : TextAt w la L) (hT : TextAt w ra R) (hW : BytesAt w wa ws) :
    Calls Try.prog 15 #[.slice la n nc, .slice ra m mc, .slice wa wn wc] w fun e w' => e = .returned (.bool true) ∧ Below w.heap.size w w' := by
  have hr := ready_any L R n m nc mc la ra w hL hR hn hm hS hT
  have hwk := fun W => wakes_any W
  obtain ⟨r, hre⟩ : ∃ r, readyM L R = r := ⟨_, rfl⟩
  rw [hre] at hr
  have hb : Below w.heap.size w w := Below.refl _ _
  cases r
  · clear hS hT hW hL hR hre
    go_enter Try.func15, Try.ntmps15
    go_wp2_with (first | (go_at_call 48; refine hr.mono ?_; rintro e w1 ⟨rfl, hb1⟩) | (go_at_call 18; refine (hwk _).mono ?_; rintro e w2 ⟨rfl, hb2⟩))
    go_ret
    exact ⟨rfl, below_then hb1 hb2⟩
  unfold readyM at hre
  simp only [Bool.and_eq_true, decide_eq_true_eq] at hre
  obtain ⟨hfe, hf⟩ := hre
  obtain ⟨k1, k2, k3, k4⟩ := few_parts hfe
  have sL := fine_small ⟨k1, k3⟩
  have sR := fine_small ⟨k2, k4⟩
  have zL : SizesOk L := by
    obtain ⟨l1, l2, v1, v2⟩ := fault_zero hf
    exact fun s hs => ((fine_of L l1 v1).2.2 s hs).2
  have zR : SizesOk R := by
    obtain ⟨l1, l2, v1, v2⟩ := fault_zero hf
    exact fun s hs => ((fine_of R l2 v2).2.2 s hs).2
  have hTL := fun W hS => text_any L n nc la W hL (by omega) (fun s hs => by have := k3 s hs; omega) hS
  have hTR := fun W hT => text_any R m mc ra W hR (by omega) (fun s hs => by have := k4 s hs; omega) hT
  have hSL := fun W hS => refSize_any L n nc la W hL (by omega) zL hS
  have hSR := fun W hT => refSize_any R m mc ra W hR (by omega) zR hT
  have hch := fun W hW => chosen_any n m nc mc wn wc la ra wa ws W (by omega) (by omega) hw hwn hW
  have hLE := fun a ac b bc W hA hB h1 h2 l sc sa hP hl => levelOf_any L R n ac m bc a b W hL hR sL sR hA hB h1 h2 l l.length sc sa rfl hl hP
  have hFA := fun l ms h => level_facts (l := l) (ms := ms) zL zR hL hR h
  have hxb := sizeM_bd L zL
  have hyb := sizeM_bd R zR
  have hn22 : n ≤ 22 := by omega
  have hm22 : m ≤ 22 := by omega
  rw [hL] at hxb
  rw [hR] at hyb
  have hSx := hS
  have hTx := hT
  have hWx := hW
  have HF := hid hf
  have HLL := hid hL
  have HRR := hid hR
  clear hf hfe k1 k2 k3 k4 sL sR zL zR hL hR hS hT hW
  go_enter Try.func15, Try.ntmps15
  go_upto_region 4 with (first | (go_at_call 48; refine hr.mono ?_; rintro e wq ⟨rfl, hq⟩; replace hSx := hSx.grown hq; replace hTx := hTx.grown hq; replace hWx := hWx.grown hq; replace hb := below_then hb hq; clear hq) | (go_at_call 49; refine (hch _ hWx).mono ?_; rintro e wq ⟨l, ms, sa, sc, rfl, hPl, hmt, hll, hq⟩; replace hSx := hSx.grown hq; replace hTx := hTx.grown hq; replace hb := below_then hb hq; clear hq))
  clear hr hch hWx
  have hlen := (match_fits hmt).1
  obtain ⟨v1, v2, v3, v4, v5, v6⟩ := hFA l ms hmt
  have hST := fun W hP => steps_any l l.length sc sa W rfl (by omega) hP
  have hLV : ∀ a ac b bc ss sc W, TextAt W a L → TextAt W b R → n ≤ ac → m ≤ bc → PairsAt W ss l → Calls Try.prog 26 #[.slice a n ac, .slice b m bc, .slice ss l.length sc] W fun e w' => ∃ ba bc', e = .returned (.tuple #[.slice ba l.length bc', .int .i64 (linesM L R ms ms.length), .int .i64 (blankM L R ms ms.length), .int .i64 0]) ∧ IntsAt w' ba (beginsM L R ms ms.length) ∧ Below W.heap.size W w' := fun a ac b bc ss sc W hA hB h1 h2 hP => by
    refine (hLE a ac b bc W hA hB h1 h2 l sc ss hP (by omega)).mono ?_
    rintro e w' ⟨hb, ⟨hne, -⟩ | ⟨-, hmm, -⟩ | ⟨-, ms', a, cap, hmm, rfl, hI⟩⟩
    · exact (hne HF.out).elim
    · rw [HLL.out, HRR.out, hmt] at hmm; cases hmm
    · rw [HLL.out, HRR.out, hmt] at hmm
      cases hmm
      exact ⟨a, cap, by rw [hlen], hI, hb⟩
  have hbg : ∀ j, j < l.length → (beginsM L R ms ms.length).getD j 0 = linesM L R ms j := fun j hj => by
    unfold beginsM
    rw [List.getD_eq_getElem?_getD, List.getElem?_map, List.getElem?_range (by omega)]
    rfl
  have hbl : (beginsM L R ms ms.length).length = l.length := by rw [beginsM_length, hlen]
  have h00 : linesM L R ms 0 = 0 := rfl
  rw [hlen] at v1 v2 v3 v4 v5 v6 hLV hbg hbl
  have hzb := v5 l.length (Nat.le_refl _)
  clear hlen hLE hFA hmt
  generalize linesM L R ms = f at v1 v2 v3 v4 v5 v6 hLV hbg hzb h00
  generalize blankM L R ms l.length = z2 at v3 hLV
  generalize beginsM L R ms l.length = B at hLV hbg hbl
  generalize sizeM L = x at v1 v3 hSL hxb
  generalize sizeM R = y at v2 v3 hSR hyb
  generalize hlg : l.length = len at *
  generalize hz1 : f len = z1 at v1 v2 v3 v6 hLV hzb
  have u1 : ¬ z1 < x := by omega
  have u2 : ¬ z1 < y := by omega
  have u3 : ¬ z2 < 0 := by omega
  have u4 : 0 ≤ z1 ∧ z1 ≤ 20000 := by omega
  have u5 : 0 ≤ z2 ∧ z2 ≤ 40000 := by omega
  have u6 : 0 ≤ x ∧ x ≤ 5000 := by omega
  have u7 : 0 ≤ y ∧ y ≤ 5000 := by omega
  have V4 := hid v4
  have V5 := hid v5
  have V6 := hid v6
  have HBG := hid hbg
  have HBL := hid hbl
  have H00 := hid h00
  clear v4 v5 v6 hbg hbl h00 hzb hxb hyb hz1 hlg
  go_upto_region 8 with (first | (go_at_call_has 20 la; refine (hTL _ hSx).mono ?_; rintro e wq ⟨a, ac, rfl, hA, hAc, hq⟩; replace hSx := hSx.grown hq; replace hTx := hTx.grown hq; replace hPl := hPl.grown hq; replace hb := below_then hb hq; clear hq) | (go_at_call_has 20 ra; refine (hTR _ hTx).mono ?_; rintro e wq ⟨b, bc, rfl, hB, hBc, hq⟩; replace hSx := hSx.grown hq; replace hTx := hTx.grown hq; replace hA := hA.grown hq; replace hPl := hPl.grown hq; replace hb := below_then hb hq; clear hq) | (go_at_call 24; refine (hST _ hPl).mono ?_; rintro e wq ⟨ss, ssc, rfl, hPs, hq⟩; replace hSx := hSx.grown hq; replace hTx := hTx.grown hq; replace hA := hA.grown hq; replace hB := hB.grown hq; replace hb := below_then hb hq; clear hq) | (go_at_call 26; refine (hLV a ac b bc ss ssc _ hA hB hAc hBc hPs).mono ?_; rintro e wq ⟨ba, bcc, rfl, hI, hq⟩; clear hA hB hPs; replace hSx := hSx.grown hq; replace hTx := hTx.grown hq; replace hb := below_then hb hq; clear hq) | (go_at_call_has 50 la; refine (hSL _ hSx).mono ?_; rintro e wq ⟨rfl, hq⟩; replace hTx := hTx.grown hq; replace hI := hI.grown hq; replace hb := below_then hb hq; clear hq) | (go_at_call_has 50 ra; refine (hSR _ hTx).mono ?_; rintro e wq ⟨rfl, hq⟩; replace hI := hI.grown hq; replace hb := below_then hb hq; clear hq))
  clear hTL hTR hSL hSR hST hLV u1 u2 u3 u5 u6 u7 v1 v2 v3
  go_wp2_with fail
  go_loopw [14] (fun i wr => ∃ j : Nat, j ≤ len ∧ i = .int .i64 j ∧ Below wq.heap.size wq wr) (fun i _ => len - (intOf i).toNat)
  case atStart => exact ⟨0, Nat.zero_le _, rfl, Below.refl _ _⟩
  case round =>
    obtain ⟨j, hj, rfl, hBr⟩ := hrel
    by_cases hlt : j < len
    · have hlt' : (j : Int) < len := by omega
      obtain ⟨b1, o1, e1, c1⟩ := (hI.grown hBr) j (by rw [HBL.out]; exact hlt)
      subst e1
      rw [HBG.out j hlt] at c1
      have hlast := V6.out j hlt
      have hbd := V5.out j hj
      cases j with
      | zero =>
        rw [H00.out] at c1
        have g1 := lt_of_cell c1
        have hz0 : ¬ z1 ≤ 0 := by have := H00.out; omega
        clear hlast hbd
        go_wp2_with fail
        have oc : ∀ p : Over wr, p.w.cell? ⟨b1, o1 + 0, none⟩ = some (.int .i64 0) := fun p => p.cell c1
        have oc' : ∀ p : Over wr, p.w.cell? ⟨b1, o1, none⟩ = some (.int .i64 0) := fun p => p.cell c1
        refine wp_region_over wr (Below.refl _ _) (by kernel_rfl) (by kernel_rfl) ?_
        repeat (go_big_quiet_step (fail))
        refine wpQuiet_nil ?_
        intro wz hw'
        have hbz := over_below hw'
        clear hw' oc oc'
        go_wp2_with fail
        go_roundw
        case rel => exact ⟨1, by omega, by go_num, hBr.trans (hbz.mono hBr.size)⟩
        case measure => simp [intOf]; omega
      | succ j1 =>
        obtain ⟨b2, o2, e2, c2⟩ := (hI.grown hBr) j1 (by rw [HBL.out]; omega)
        cases e2
        rw [HBG.out j1 (by omega)] at c2
        have hup := V4.out j1 (by omega)
        have hbd1 := V5.out j1 (by omega)
        obtain ⟨j, hjj⟩ : ∃ j, j = j1 + 1 := ⟨_, rfl⟩
        rw [← hjj] at c1 hlast hbd hup hlt hlt' hj
        simp only [← hjj]
        generalize f j = u at c1 hlast hbd hup
        generalize f j1 = v at c2 hup hbd1
        have g1 := lt_of_cell c1
        have n0 : ¬ (j : Int) = 0 := by omega
        have n0' : ¬ j = 0 := by omega
        have n1 : (0 : Int) < (j : Int) := by omega
        have n1' : 0 < j := by omega
        have w1 : IntKind.i64.wrap ((j : Int) - 1) = (j1 : Int) := by rw [IntKind.wrap_i64]; omega
        have j1a : (0 : Int) ≤ (j1 : Int) := by omega
        have j1b : (j1 : Int) < (len : Int) := by omega
        have ja : (0 : Int) ≤ (j : Int) := by omega
        have m1 : ¬ u ≤ v := by omega
        have m2 : ¬ z1 ≤ u := by omega
        have q0 : decide ((j : Int) = 0) = false := decide_eq_false n0
        have q0b : ((j : Int) == 0) = false := by simpa using n0'
        have q1 : decide ((0 : Int) < (j : Int)) = true := decide_eq_true n1
        have q1b : decide (0 < j) = true := decide_eq_true n1'
        have q0c : decide (j = 0) = false := decide_eq_false n0'
        have q2 : decide (u ≤ v) = false := decide_eq_false m1
        have q3 : decide (z1 ≤ u) = false := decide_eq_false m2
        have HJJ := hid hjj
        clear hjj hlast hbd hup hbd1
        go_wp2_with fail
        have oc : ∀ p : Over wr, p.w.cell? ⟨b1, o1 + j, none⟩ = some (.int .i64 u) := fun p => p.cell c1
        have oc' : ∀ p : Over wr, p.w.cell? ⟨b1, o1 + j1, none⟩ = some (.int .i64 v) := fun p => p.cell c2
        refine wp_region_over wr (Below.refl _ _) (by kernel_rfl) (by kernel_rfl) ?_
        repeat (go_big_quiet_step (fail))
        refine wpQuiet_nil ?_
        intro wz hw'
        have hbz := over_below hw'
        clear hw' oc oc' w1
        go_wp2_with fail
        go_roundw
        case rel => exact ⟨j + 1, by omega, by go_num, hBr.trans (hbz.mono hBr.size)⟩
        case measure => simp [intOf]; omega
    · have hjn : j = len := by omega
      subst hjn
      replace hb := hb.trans (hBr.mono hb.size)
      go_wp2_with (go_at_call 18; refine (hwk _).mono ?_; rintro e wq ⟨rfl, hq⟩; replace hb := below_then hb hq; clear hq)
      go_ret
      exact ⟨rfl, hb⟩

end Go.Proofs.Ytohahlnhbppnhaa
