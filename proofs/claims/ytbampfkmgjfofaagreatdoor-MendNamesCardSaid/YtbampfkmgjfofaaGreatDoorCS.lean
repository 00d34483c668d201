/- Mend: the law MendDecides, walked. -/
import Derived.Test.YtbampfkmgjfofaaGreatDoorCJ
import Derived.Test.YtbampfkmgjfofaaGreatDoorCR
import Derived.Deep.RegionHeld3
import Derived.IntWalk
import Derived.Deep.QuietTactic
import Derived.BigQuiet
namespace Go.Proofs.YtbampfkmgjfofaaGreatDoor
open Go.RowKit

theorem few_put {R : List (Tx × Int)} {L : List Req} (h : fewM R L = true) : ∀ q ∈ L, q.put.length ≤ 1000 ∧ ∀ t ∈ q.put, t.size ≤ 1000 := by
  unfold fewM at h
  simp only [Bool.and_eq_true, decide_eq_true_eq, List.all_eq_true] at h
  obtain ⟨h1, h2, h3, h4⟩ := h
  exact fun q hq => ⟨by have := (short_ok (h2 q hq)).1; omega, fun t ht => by have := (short_ok (h2 q hq)).2 t ht; omega⟩

theorem report_right {l : Lex} {S : List (Int × Int × Int)} {R : List (Tx × Int)} {out win : Int} {L : List Req} (h : hearErr l S R out win L = 0) : reportOk R out win = true := by
  unfold hearErr at h
  split at h
  · split at h
    · rename_i h2
      unfold reportErr at h2
      split at h2
      · assumption
      · cases h2
    · exact absurd h ‹_›
  · exact absurd h ‹_›

set_option maxRecDepth 100000 in
set_option maxHeartbeats 8000000 in
theorem mendDecides_any (l : Lex) (a1 a2 a3 : Option Addr) (n1 n2 n3 c1 c2 c3 : Nat) (S : List (Int × Int × Int)) (sa : Option Addr) (sn sc : Nat) (R : List (Tx × Int)) (out win : Int) (wa : Option Addr) (wn wc : Nat) (L : List Req) (ra : Option Addr) (rn rc : Nat) (w : World)
    (h1 : l.nums.length = n1) (h2 : l.names.length = n2) (h3 : l.nots.length = n3) (hLx : LexAt w a1 a2 a3 l) (hs : S.length = sn) (hSw : SwapsAt w sa S) (hR : R.length = wn) (hwn : wn ≤ maxLen) (hN : Nums w wa R) (hL : L.length = rn) (hrn : rn ≤ maxLen) (hQ : ReqsAt w ra L) (hqI : ∀ q ∈ L, ReqI q) (hstd : Std w) :
    Calls Tryz.prog 5 #[.agg #[.slice a1 n1 c1, .slice a2 n2 c2, .slice a3 n3 c3], .slice sa sn sc, .agg #[.slice wa wn wc, .int .i64 out, .int .i64 win], .slice ra rn rc] w fun e w' => e = .returned (.bool true) ∧ Below w.heap.size w w' := by
  have H1 := hid h1; have H2 := hid h2; have H3 := hid h3; have HS := hid hs; have HR := hid hR; have HL := hid hL; have HWN := hid hwn; have HRN := hid hrn; have HQI := hid hqI
  clear h1 h2 h3 hs hR hL hwn hrn hqI
  obtain ⟨W0, hW0⟩ : ∃ W, W = (w.alloc (.cells #[.slice a1 n1 c1, .slice a2 n2 c2, .slice a3 n3 c3] 26)).alloc (.cells #[.slice wa wn wc, .int .i64 out, .int .i64 win] 56) := ⟨_, rfl⟩
  have hB0 : Below w.heap.size w W0 := by rw [hW0]; exact ((Below.refl _ w).alloc (Nat.le_refl _) _).alloc (by simp) _
  have x0 : W0.cell? ⟨w.heap.size, 0, none⟩ = some (.slice a1 n1 c1) := by rw [hW0]; simp [go_sem]
  have x1 : W0.cell? ⟨w.heap.size, 1, none⟩ = some (.slice a2 n2 c2) := by rw [hW0]; simp [go_sem]
  have x2 : W0.cell? ⟨w.heap.size, 2, none⟩ = some (.slice a3 n3 c3) := by rw [hW0]; simp [go_sem]
  have y0 : W0.cell? ⟨w.heap.size + 1, 0, none⟩ = some (.slice wa wn wc) := by rw [hW0]; simp [go_sem]
  have y1 : W0.cell? ⟨w.heap.size + 1, 1, none⟩ = some (.int .i64 out) := by rw [hW0]; simp [go_sem]
  have y2 : W0.cell? ⟨w.heap.size + 1, 2, none⟩ = some (.int .i64 win) := by rw [hW0]; simp [go_sem]
  replace hLx := hLx.grown hB0
  replace hSw := hSw.grown hB0
  replace hN := hN.grown hB0
  replace hQ := hQ.grown hB0
  replace hstd := hstd.grown hB0
  have HB := hid hB0
  clear hB0
  go_enter Tryz.func5, Tryz.ntmps5
  go_wp2_with fail
  rw [← hW0]
  clear hW0
  refine (thin_any l a1 a2 a3 sa n1 n2 n3 c1 c2 c3 sn sc W0 H1.out H2.out H3.out hLx).mono ?_
  rintro e w1 ⟨rfl, hb⟩
  replace HB := hid (below_then HB.out hb)
  replace x0 := cell_grown hb x0
  replace x1 := cell_grown hb x1
  replace x2 := cell_grown hb x2
  replace y0 := cell_grown hb y0
  replace y1 := cell_grown hb y1
  replace y2 := cell_grown hb y2
  replace hLx := hLx.grown hb
  replace hSw := hSw.grown hb
  replace hN := hN.grown hb
  replace hQ := hQ.grown hb
  replace hstd := hstd.grown hb
  clear hb
  cases ht : thinM l sn
  · clear ht
    go_wp2_with fail
    refine (awake_any w1 hstd).mono ?_
    rintro e wz ⟨rfl, hb⟩
    go_wp2
    go_ret
    exact ⟨rfl, below_then HB.out hb⟩
  go_wp2_with fail
  refine (few_any R out win wn wc wa L rn rc ra _ HR.out HWN.out hN HL.out HRN.out hQ).mono ?_
  rintro e w2 ⟨rfl, hb⟩
  replace HB := hid (below_then HB.out hb)
  replace x0 := cell_grown hb x0
  replace x1 := cell_grown hb x1
  replace x2 := cell_grown hb x2
  replace y0 := cell_grown hb y0
  replace y1 := cell_grown hb y1
  replace y2 := cell_grown hb y2
  replace hLx := hLx.grown hb
  replace hSw := hSw.grown hb
  replace hN := hN.grown hb
  replace hQ := hQ.grown hb
  replace hstd := hstd.grown hb
  clear hb
  cases hf : fewM R L
  · clear hf
    go_wp2_with fail
    refine (awake_any w2 hstd).mono ?_
    rintro e wz ⟨rfl, hb⟩
    go_wp2
    go_ret
    exact ⟨rfl, below_then HB.out hb⟩
  have hs25 := (thin_ok ht).2
  have HT := hid (thin_ok ht).1
  have HF := hid (few_ok hf)
  have HPUT := hid (few_put hf)
  clear ht hf
  obtain ⟨q1, q2, q3⟩ := thin_sizes HT.out H1.out H2.out H3.out
  have qw : wn ≤ 85 := by have := HF.out.n; rw [HR.out] at this; exact this
  have qr : rn ≤ 25 := by have := HF.out.m; rw [HL.out] at this; exact this
  go_wp2_with fail
  refine (report_any R out win wn wc wa _ HR.out (by omega) hN).mono ?_
  rintro e w3 ⟨pa0, pc0, rfl, hpc0, hN0, hb⟩
  replace HB := hid (below_then HB.out hb)
  replace x0 := cell_grown hb x0
  replace x1 := cell_grown hb x1
  replace x2 := cell_grown hb x2
  replace y0 := cell_grown hb y0
  replace y1 := cell_grown hb y1
  replace y2 := cell_grown hb y2
  replace hLx := hLx.grown hb
  replace hSw := hSw.grown hb
  replace hN := hN.grown hb
  replace hQ := hQ.grown hb
  replace hstd := hstd.grown hb
  clear hb
  go_wp2_with fail
  refine (checkReport_any R out win wn pc0 pa0 _ HR.out (by unfold maxLen; omega) hN0).mono ?_
  rintro e w4 ⟨rfl, hb⟩
  replace HB := hid (below_then HB.out hb)
  replace x0 := cell_grown hb x0
  replace x1 := cell_grown hb x1
  replace x2 := cell_grown hb x2
  replace y0 := cell_grown hb y0
  replace y1 := cell_grown hb y1
  replace y2 := cell_grown hb y2
  replace hLx := hLx.grown hb
  replace hSw := hSw.grown hb
  replace hN := hN.grown hb
  replace hQ := hQ.grown hb
  replace hstd := hstd.grown hb
  clear hb
  clear hN0 hpc0
  obtain ⟨re, hre⟩ : ∃ z, reportErr R out win = z := ⟨_, rfl⟩
  rw [hre]
  have HRE := hid hre
  clear hre
  have hBd : Below w4.heap.size w4 w4.drew := (Below.refl _ _).drew
  go_wp2_with fail
  by_cases hE0 : hearErr l S R out win L = 0
  case neg =>
    have HE0 : Hid (¬ hearErr l S R out win L = 0) := hid hE0
    clear hE0
    go_region_held3 (fun w' : World => w'.cell? ⟨w.heap.size, 0, none⟩ = some (.slice a1 n1 c1) ∧ w'.cell? ⟨w.heap.size, 1, none⟩ = some (.slice a2 n2 c2) ∧ w'.cell? ⟨w.heap.size, 2, none⟩ = some (.slice a3 n3 c3) ∧ w'.cell? ⟨w.heap.size + 1, 0, none⟩ = some (.slice wa wn wc) ∧ w'.cell? ⟨w.heap.size + 1, 1, none⟩ = some (.int .i64 out) ∧ w'.cell? ⟨w.heap.size + 1, 2, none⟩ = some (.int .i64 win)) (exact ⟨x0, x1, x2, y0, y1, y2⟩) (first | (go_at_call 19; replace HB := hid (below_then HB.out hBd); replace x0 := cell_grown hBd x0; replace x1 := cell_grown hBd x1; replace x2 := cell_grown hBd x2; replace y0 := cell_grown hBd y0; replace y1 := cell_grown hBd y1; replace y2 := cell_grown hBd y2; replace hLx := hLx.grown hBd; replace hSw := hSw.grown hBd; replace hN := hN.grown hBd; replace hQ := hQ.grown hBd; replace hstd := hstd.grown hBd; refine (lexicon_any l a1 a2 a3 n1 n2 n3 c1 c2 c3 _ H1.out H2.out H3.out q1 q2 q3 (fun N hN => by have := HT.out.m2 N hN; omega) hLx).mono ?_; rintro e wl1 ⟨b1, b2, b3, d1, d2, d3, rfl, hl3, hb1⟩; replace HB := hid (below_then HB.out hb1); replace x0 := cell_grown hb1 x0; replace x1 := cell_grown hb1 x1; replace x2 := cell_grown hb1 x2; replace y0 := cell_grown hb1 y0; replace y1 := cell_grown hb1 y1; replace y2 := cell_grown hb1 y2; replace hLx := hLx.grown hb1; replace hSw := hSw.grown hb1; replace hN := hN.grown hb1; replace hQ := hQ.grown hb1; replace hstd := hstd.grown hb1) | (go_at_call 27; refine (swaps_any S sn sc sa _ HS.out (by omega) hSw).mono ?_; rintro e wl2 ⟨ta, tc, rfl, hT5, hb2⟩; replace HB := hid (below_then HB.out hb2); replace x0 := cell_grown hb2 x0; replace x1 := cell_grown hb2 x1; replace x2 := cell_grown hb2 x2; replace y0 := cell_grown hb2 y0; replace y1 := cell_grown hb2 y1; replace y2 := cell_grown hb2 y2; replace hLx := hLx.grown hb2; replace hSw := hSw.grown hb2; replace hN := hN.grown hb2; replace hQ := hQ.grown hb2; replace hstd := hstd.grown hb2; replace hl3 := hl3.grown hb2) | (go_at_call 32; refine (report_any R out win wn wc wa _ HR.out (by omega) hN).mono ?_; rintro e wl3 ⟨pa, pc, rfl, hpc, hN6, hb3⟩; replace HB := hid (below_then HB.out hb3); replace x0 := cell_grown hb3 x0; replace x1 := cell_grown hb3 x1; replace x2 := cell_grown hb3 x2; replace y0 := cell_grown hb3 y0; replace y1 := cell_grown hb3 y1; replace y2 := cell_grown hb3 y2; replace hLx := hLx.grown hb3; replace hSw := hSw.grown hb3; replace hN := hN.grown hb3; replace hQ := hQ.grown hb3; replace hstd := hstd.grown hb3; replace hl3 := hl3.grown hb3; replace hT5 := hT5.grown hb3) | (go_at_call 34; refine (requests_any L rn rc ra _ HL.out (by omega) hQ HF.out.p).mono ?_; rintro e wl4 ⟨ka, kc, rfl, hQ7, hb4⟩; replace HB := hid (below_then HB.out hb4); replace x0 := cell_grown hb4 x0; replace x1 := cell_grown hb4 x1; replace x2 := cell_grown hb4 x2; replace y0 := cell_grown hb4 y0; replace y1 := cell_grown hb4 y1; replace y2 := cell_grown hb4 y2; replace hLx := hLx.grown hb4; replace hSw := hSw.grown hb4; replace hN := hN.grown hb4; replace hQ := hQ.grown hb4; replace hstd := hstd.grown hb4; replace hl3 := hl3.grown hb4; replace hT5 := hT5.grown hb4; replace hN6 := hN6.grown hb4) | (go_at_call 33; refine (decideF_any l b1 b2 b3 n1 n2 n3 d1 d2 d3 S ta sn tc R pa wn pc out win L ka rn kc _ H1.out H2.out H3.out hl3 HS.out (by unfold maxLen; omega) hT5 HR.out HWN.out hpc hN6 HL.out hQ7 (fun q hq => (HQI.out q hq).2.2.2) hstd).mono ?_; rintro e wl5 ⟨Wd, hbW, hbd, he⟩; rw [if_neg HE0.out] at he; subst he; have hb5 := hbW.trans (hbd.mono hbW.size); replace HB := hid (below_then HB.out hb5); replace x0 := cell_grown hb5 x0; replace x1 := cell_grown hb5 x1; replace x2 := cell_grown hb5 x2; replace y0 := cell_grown hb5 y0; replace y1 := cell_grown hb5 y1; replace y2 := cell_grown hb5 y2; replace hLx := hLx.grown hb5; replace hSw := hSw.grown hb5; replace hN := hN.grown hb5; replace hQ := hQ.grown hb5; replace hstd := hstd.grown hb5))
    clear hb1 hb2 hb3 hb4 hb5 hbW hbd hl3 hT5 hN6 hQ7 hBd hpc
    go_wp2_with fail
    refine (rightReport_any R out win wn wc wa _ HR.out (by omega) hN HF.out.s).mono ?_
    rintro e w6 ⟨rfl, hb⟩
    replace HB := hid (below_then HB.out hb)
    replace x0 := cell_grown hb x0
    replace x1 := cell_grown hb x1
    replace x2 := cell_grown hb x2
    replace y0 := cell_grown hb y0
    replace y1 := cell_grown hb y1
    replace y2 := cell_grown hb y2
    replace hLx := hLx.grown hb
    replace hSw := hSw.grown hb
    replace hN := hN.grown hb
    replace hQ := hQ.grown hb
    replace hstd := hstd.grown hb
    clear hb
    cases hro : reportOk R out win
    all_goals
      have hre := HRE.out
      unfold reportErr at hre
      rw [hro] at hre
      simp only [Bool.false_eq_true, if_false, if_true] at hre
      subst hre
      clear hro
      go_wp2_with fail
      refine (wrong_any l a1 a2 a3 n1 n2 n3 c1 c2 c3 S sa sn sc R out win wa wn wc L ra rn rc _ H1.out H2.out H3.out HT.out hLx HS.out (by omega) hSw HR.out (by omega) HF.out.s hN HL.out).mono ?_
      rintro e w7 ⟨rfl, hb⟩
      replace HB := hid (below_then HB.out hb)
      replace hstd := hstd.grown hb
      clear hb
      obtain ⟨he, hhe⟩ : ∃ z, hearErr l S R out win L = z := ⟨_, rfl⟩
      rw [hhe] at HE0 ⊢
      have gh : (he != 0) = true := by simpa using HE0.out
      clear hhe
      go_wp2_with fail
      refine (awake_any _ hstd).mono ?_
      rintro e wz ⟨rfl, hb⟩
      go_wp2
      go_ret
      exact ⟨rfl, below_then HB.out hb⟩
  have HE0 := hid hE0
  have hro := report_right hE0
  have hre := HRE.out
  unfold reportErr at hre
  rw [hro] at hre
  simp only [if_true] at hre
  subst hre
  clear hE0
  go_region_held3 (fun w' : World => w'.cell? ⟨w.heap.size, 0, none⟩ = some (.slice a1 n1 c1) ∧ w'.cell? ⟨w.heap.size, 1, none⟩ = some (.slice a2 n2 c2) ∧ w'.cell? ⟨w.heap.size, 2, none⟩ = some (.slice a3 n3 c3) ∧ w'.cell? ⟨w.heap.size + 1, 0, none⟩ = some (.slice wa wn wc) ∧ w'.cell? ⟨w.heap.size + 1, 1, none⟩ = some (.int .i64 out) ∧ w'.cell? ⟨w.heap.size + 1, 2, none⟩ = some (.int .i64 win)) (exact ⟨x0, x1, x2, y0, y1, y2⟩) (first | (go_at_call 19; replace HB := hid (below_then HB.out hBd); replace x0 := cell_grown hBd x0; replace x1 := cell_grown hBd x1; replace x2 := cell_grown hBd x2; replace y0 := cell_grown hBd y0; replace y1 := cell_grown hBd y1; replace y2 := cell_grown hBd y2; replace hLx := hLx.grown hBd; replace hSw := hSw.grown hBd; replace hN := hN.grown hBd; replace hQ := hQ.grown hBd; replace hstd := hstd.grown hBd; refine (lexicon_any l a1 a2 a3 n1 n2 n3 c1 c2 c3 _ H1.out H2.out H3.out q1 q2 q3 (fun N hN => by have := HT.out.m2 N hN; omega) hLx).mono ?_; rintro e wl1 ⟨b1, b2, b3, d1, d2, d3, rfl, hl3, hb1⟩; replace HB := hid (below_then HB.out hb1); replace x0 := cell_grown hb1 x0; replace x1 := cell_grown hb1 x1; replace x2 := cell_grown hb1 x2; replace y0 := cell_grown hb1 y0; replace y1 := cell_grown hb1 y1; replace y2 := cell_grown hb1 y2; replace hLx := hLx.grown hb1; replace hSw := hSw.grown hb1; replace hN := hN.grown hb1; replace hQ := hQ.grown hb1; replace hstd := hstd.grown hb1) | (go_at_call 27; refine (swaps_any S sn sc sa _ HS.out (by omega) hSw).mono ?_; rintro e wl2 ⟨ta, tc, rfl, hT5, hb2⟩; replace HB := hid (below_then HB.out hb2); replace x0 := cell_grown hb2 x0; replace x1 := cell_grown hb2 x1; replace x2 := cell_grown hb2 x2; replace y0 := cell_grown hb2 y0; replace y1 := cell_grown hb2 y1; replace y2 := cell_grown hb2 y2; replace hLx := hLx.grown hb2; replace hSw := hSw.grown hb2; replace hN := hN.grown hb2; replace hQ := hQ.grown hb2; replace hstd := hstd.grown hb2; replace hl3 := hl3.grown hb2) | (go_at_call 32; refine (report_any R out win wn wc wa _ HR.out (by omega) hN).mono ?_; rintro e wl3 ⟨pa, pc, rfl, hpc, hN6, hb3⟩; replace HB := hid (below_then HB.out hb3); replace x0 := cell_grown hb3 x0; replace x1 := cell_grown hb3 x1; replace x2 := cell_grown hb3 x2; replace y0 := cell_grown hb3 y0; replace y1 := cell_grown hb3 y1; replace y2 := cell_grown hb3 y2; replace hLx := hLx.grown hb3; replace hSw := hSw.grown hb3; replace hN := hN.grown hb3; replace hQ := hQ.grown hb3; replace hstd := hstd.grown hb3; replace hl3 := hl3.grown hb3; replace hT5 := hT5.grown hb3) | (go_at_call 34; refine (requests_any L rn rc ra _ HL.out (by omega) hQ HF.out.p).mono ?_; rintro e wl4 ⟨ka, kc, rfl, hQ7, hb4⟩; replace HB := hid (below_then HB.out hb4); replace x0 := cell_grown hb4 x0; replace x1 := cell_grown hb4 x1; replace x2 := cell_grown hb4 x2; replace y0 := cell_grown hb4 y0; replace y1 := cell_grown hb4 y1; replace y2 := cell_grown hb4 y2; replace hLx := hLx.grown hb4; replace hSw := hSw.grown hb4; replace hN := hN.grown hb4; replace hQ := hQ.grown hb4; replace hstd := hstd.grown hb4; replace hl3 := hl3.grown hb4; replace hT5 := hT5.grown hb4; replace hN6 := hN6.grown hb4) | (go_at_call 33; refine (decideF_any l b1 b2 b3 n1 n2 n3 d1 d2 d3 S ta sn tc R pa wn pc out win L ka rn kc _ H1.out H2.out H3.out hl3 HS.out (by unfold maxLen; omega) hT5 HR.out HWN.out hpc hN6 HL.out hQ7 (fun q hq => (HQI.out q hq).2.2.2) hstd).mono ?_; rintro e wl5 ⟨Wd, hbW, hbd, he⟩; rw [if_pos HE0.out] at he; obtain ⟨ab, T, rfl, hTk, hrow⟩ := he; have hb5 := hbW.trans (hbd.mono hbW.size); replace HB := hid (below_then HB.out hb5); replace x0 := cell_grown hb5 x0; replace x1 := cell_grown hb5 x1; replace x2 := cell_grown hb5 x2; replace y0 := cell_grown hb5 y0; replace y1 := cell_grown hb5 y1; replace y2 := cell_grown hb5 y2; replace hLx := hLx.grown hb5; replace hSw := hSw.grown hb5; replace hN := hN.grown hb5; replace hQ := hQ.grown hb5; replace hstd := hstd.grown hb5))
  have hDD : (runA (aloneM (entries l) S R out win L) T).1 = (stQ (aloneM (entries l) S R out win L) L rn).1 := by
    rw [← HL.out, stQ_all]
    exact (run_order hTk).1
  rw [hDD] at hrow
  have hI := IntsAt.of_row hrow
  obtain ⟨o1, o2, hw80⟩ := report_of_heard HE0.out
  clear hb1 hb2 hb3 hb4 hb5 hbW hbd hl3 hT5 hN6 hQ7 hBd hpc hrow hTk hDD
  go_wp2_with fail
  refine (rightReport_any R out win wn wc wa _ HR.out (by omega) hN HF.out.s).mono ?_
  rintro e w6 ⟨rfl, hb⟩
  rw [hro]
  replace HB := hid (below_then HB.out hb)
  replace x0 := cell_grown hb x0
  replace x1 := cell_grown hb x1
  replace x2 := cell_grown hb x2
  replace y0 := cell_grown hb y0
  replace y1 := cell_grown hb y1
  replace y2 := cell_grown hb y2
  replace hLx := hLx.grown hb
  replace hSw := hSw.grown hb
  replace hN := hN.grown hb
  replace hQ := hQ.grown hb
  replace hstd := hstd.grown hb
  replace hI := hI.grown hb
  clear hb
  clear hro
  go_wp2_with fail
  refine (wrong_any l a1 a2 a3 n1 n2 n3 c1 c2 c3 S sa sn sc R out win wa wn wc L ra rn rc _ H1.out H2.out H3.out HT.out hLx HS.out (by omega) hSw HR.out (by omega) HF.out.s hN HL.out).mono ?_
  rintro e w7 ⟨rfl, hb⟩
  rw [HE0.out]
  replace HB := hid (below_then HB.out hb)
  replace x0 := cell_grown hb x0
  replace x1 := cell_grown hb x1
  replace x2 := cell_grown hb x2
  replace y0 := cell_grown hb y0
  replace y1 := cell_grown hb y1
  replace y2 := cell_grown hb y2
  replace hLx := hLx.grown hb
  replace hSw := hSw.grown hb
  replace hN := hN.grown hb
  replace hQ := hQ.grown hb
  replace hstd := hstd.grown hb
  replace hI := hI.grown hb
  clear hb
  go_wp2_with fail
  refine (refDecide_any l a1 a2 a3 n1 n2 n3 c1 c2 c3 S sa sn sc R out win wa wn wc L ra rn rc _ H1.out H2.out H3.out hLx HS.out (by omega) hSw HR.out (by omega) hN HF.out.s o1 o2 HL.out (by omega) hQ (fun q hq => ⟨(HPUT.out q hq).1, (HPUT.out q hq).2, (HQI.out q hq).2.2.2⟩)).mono ?_
  rintro e w8 ⟨rb, rfl, hI2, hb⟩
  replace HB := hid (below_then HB.out hb)
  replace hstd := hstd.grown hb
  replace hI := hI.grown hb
  generalize (stQ (aloneM (entries l) S R out win L) L rn).1 = D at hI hI2
  clear hb x0 x1 x2 y0 y1 y2 hLx hSw hN hQ
  go_wp2_with fail
  obtain ⟨Wy, hWy⟩ : ∃ W, W = w8 := ⟨_, rfl⟩
  rw [← hWy] at HB hstd hI hI2 ⊢
  clear hWy
  go_loopw [14] (fun i wr => ∃ k : Nat, k ≤ rn ∧ i = .int .i64 k ∧ Below Wy.heap.size Wy wr) (fun i _ => rn - (intOf i).toNat)
  case atStart => exact ⟨0, Nat.zero_le _, rfl, Below.refl _ _⟩
  case round =>
    obtain ⟨k, hk, rfl, hBr⟩ := hrel
    by_cases hlt : k < rn
    · have hlt' : (k : Int) < (rn : Int) := by omega
      have k0 : (0 : Int) ≤ (k : Int) := by omega
      obtain ⟨_, _, e, d0⟩ := (hI.grown hBr) k hlt
      cases e
      obtain ⟨_, _, e, d1⟩ := (hI2.grown hBr) k hlt
      cases e
      rw [Nat.zero_add] at d0 d1
      have g0 := lt_of_cell d0
      have g1 := lt_of_cell d1
      go_wp2_with fail
      go_quiet (fail)
      go_wp2
      go_roundw
      case rel => exact ⟨k + 1, by omega, by go_num, below_drewN hBr _⟩
      case measure => simp [intOf]; omega
    · have hkn : k = rn := by omega
      subst hkn
      go_wp2_with fail
      refine (awake_any _ (hstd.grown hBr)).mono ?_
      rintro e wz ⟨rfl, hb⟩
      go_wp2
      go_ret
      exact ⟨rfl, below_then (below_then HB.out hBr) hb⟩

end Go.Proofs.YtbampfkmgjfofaaGreatDoor
