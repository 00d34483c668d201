/- Mend: the law MendAlone, walked. -/
import Derived.Test.YtbampfkmgjfofaaGreatDoorCJ
import Derived.Test.YtbampfkmgjfofaaGreatDoorCM
import Derived.Deep.RegionHeld3
import Derived.IntWalk
import Derived.Deep.QuietTactic
import Derived.BigQuiet
namespace Go.Proofs.YtbampfkmgjfofaaGreatDoor
open Go.RowKit

theorem reqs_one {w : World} {a : Option Addr} {L : List Req} (h : ReqsAt w a L) {k : Nat} (hk : k < L.length) {b off : Nat} (ha : a = some ⟨b, off, none⟩) : ReqsAt w (some ⟨b, off + k * 5, none⟩) [L.getD k default] := by
  intro i hi
  have hi0 : i = 0 := by simpa using hi
  subst hi0
  obtain ⟨b', off', pa, pc, ha', h0, h1, h2, h3, h4, h5, h6⟩ := h k hk
  rw [ha] at ha'
  cases ha'
  exact ⟨b, off + k * 5, pa, pc, rfl, by simpa using h0, by simpa using h1, by simpa using h2, by simpa using h3, by simpa using h4, by simpa using h5, by simpa using h6⟩

theorem hear_one {l : Lex} {S : List (Int × Int × Int)} {R : List (Tx × Int)} {out win : Int} {L : List Req} (q : Req) (h : hearErr l S R out win L = 0) : hearErr l S R out win [q] = 0 := by
  unfold hearErr at h ⊢
  split at h
  · rename_i h1
    rw [if_pos h1]
    split at h
    · rename_i h2
      rw [if_pos h2]
      rfl
    · exact absurd h ‹_›
  · exact absurd h ‹_›

/-- None of the first ones, except one, is accepted and meets it. -/
def NoneM (L : List Req) (D : Nat → Int) (k : Nat) (j : Nat) : Prop := ∀ m, m < j → ¬ (m ≠ k ∧ D m = 0 ∧ meetR (L.getD m default).f (L.getD m default).c (L.getD k default).f (L.getD k default).c = true)

theorem NoneM.next {L : List Req} {D : Nat → Int} {k j : Nat} (h : NoneM L D k j) (hj : ¬ (j ≠ k ∧ D j = 0 ∧ meetR (L.getD j default).f (L.getD j default).c (L.getD k default).f (L.getD k default).c = true)) : NoneM L D k (j + 1) := by
  intro m hm
  by_cases e : m = j
  · subst e; exact hj
  · exact h m (by omega)

set_option maxRecDepth 100000 in
set_option maxHeartbeats 8000000 in
theorem mendAlone_any (l : Lex) (a1 a2 a3 : Option Addr) (n1 n2 n3 c1 c2 c3 : Nat) (S : List (Int × Int × Int)) (sa : Option Addr) (sn sc : Nat) (R : List (Tx × Int)) (out win : Int) (wa : Option Addr) (wn wc : Nat) (L : List Req) (ra : Option Addr) (rn rc : Nat) (ws : Int) (w : World)
    (h1 : l.nums.length = n1) (h2 : l.names.length = n2) (h3 : l.nots.length = n3) (hLx : LexAt w a1 a2 a3 l) (hs : S.length = sn) (hSw : SwapsAt w sa S) (hR : R.length = wn) (hwn : wn ≤ maxLen) (hN : Nums w wa R) (hL : L.length = rn) (hrn : rn ≤ maxLen) (hQ : ReqsAt w ra L) (hqI : ∀ q ∈ L, ReqI q) (hrc : rn ≤ rc) (hws : 0 ≤ ws ∧ ws ≤ 255) (hstd : Std w) :
    Calls Tryz.prog 13 #[.agg #[.slice a1 n1 c1, .slice a2 n2 c2, .slice a3 n3 c3], .slice sa sn sc, .agg #[.slice wa wn wc, .int .i64 out, .int .i64 win], .slice ra rn rc, .int .u8 ws] w fun e w' => e = .returned (.bool true) ∧ Below w.heap.size w w' := by
  have H1 := hid h1; have H2 := hid h2; have H3 := hid h3; have HS := hid hs; have HR := hid hR; have HL := hid hL; have HWN := hid hwn; have HRN := hid hrn; have HQI := hid hqI
  clear h1 h2 h3 hs hR hL hwn hrn hqI
  obtain ⟨W0, hW0⟩ : ∃ W, W = (w.alloc (.cells #[.slice a1 n1 c1, .slice a2 n2 c2, .slice a3 n3 c3] 26)).alloc (.cells #[.slice wa wn wc, .int .i64 out, .int .i64 win] 56) := ⟨_, rfl⟩
  have hB0 : Below w.heap.size w W0 := by rw [hW0]; exact ((Below.refl _ w).alloc (Nat.le_refl _) _).alloc (by simp) _
  have x0 : W0.cell? ⟨w.heap.size, 0, none⟩ = some (.slice a1 n1 c1) := by rw [hW0]; simp [go_sem]
  have x1 : W0.cell? ⟨w.heap.size, 1, none⟩ = some (.slice a2 n2 c2) := by rw [hW0]; simp [go_sem]
  have x2 : W0.cell? ⟨w.heap.size, 2, none⟩ = some (.slice a3 n3 c3) := by rw [hW0]; simp [go_sem]
  have y0 : W0.cell? ⟨w.heap.size + 1, 0, none⟩ = some (.slice wa wn wc) := by rw [hW0]; simp [go_sem]
  have y1 : W0.cell? ⟨w.heap.size + 1, 1, none⟩ = some (.int .i64 out) := by rw [hW0]; simp [go_sem]
  have y2 : W0.cell? ⟨w.heap.size + 1, 2, none⟩ = some (.int .i64 win) := by rw [hW0]; simp [go_sem]
  replace hLx := hLx.grown hB0
  replace hSw := hSw.grown hB0
  replace hN := hN.grown hB0
  replace hQ := hQ.grown hB0
  replace hstd := hstd.grown hB0
  have HB := hid hB0
  clear hB0
  go_enter Tryz.func13, Tryz.ntmps13
  go_wp2_with fail
  rw [← hW0]
  clear hW0
  refine (ready_any l a1 a2 a3 n1 n2 n3 c1 c2 c3 S sa sn sc R out win wa wn wc L ra rn rc W0 H1.out H2.out H3.out hLx HS.out hSw HR.out HWN.out hN HL.out HRN.out hQ).mono ?_
  rintro e w1 ⟨rfl, hb⟩
  replace HB := hid (below_then HB.out hb)
  replace x0 := cell_grown hb x0
  replace x1 := cell_grown hb x1
  replace x2 := cell_grown hb x2
  replace y0 := cell_grown hb y0
  replace y1 := cell_grown hb y1
  replace y2 := cell_grown hb y2
  replace hLx := hLx.grown hb
  replace hSw := hSw.grown hb
  replace hN := hN.grown hb
  replace hQ := hQ.grown hb
  replace hstd := hstd.grown hb
  clear hb
  cases ht : readyM l S R out win L
  · clear ht
    go_wp2_with fail
    refine (awake_any w1 hstd).mono ?_
    rintro e wz ⟨rfl, hb⟩
    go_wp2
    go_ret
    exact ⟨rfl, below_then HB.out hb⟩
  obtain ⟨hT, hs25, hF, hE0⟩ := ready_ok ht
  have HT := hid hT
  have HF := hid hF
  have HE0 := hid hE0
  rw [HS.out] at hs25
  clear ht hT hF hE0
  obtain ⟨q1, q2, q3⟩ := thin_sizes HT.out H1.out H2.out H3.out
  have qw : wn ≤ 85 := by have := HF.out.n; rw [HR.out] at this; exact this
  have qr : rn ≤ 25 := by have := HF.out.m; rw [HL.out] at this; exact this
  by_cases hr0 : rn = 0
  · have g0 : ((rn : Int) == 0) = true := by simp; omega
    subst hr0
    go_wp2_with fail
    refine (awake_any w1 hstd).mono ?_
    rintro e wz ⟨rfl, hb⟩
    go_wp2
    go_ret
    exact ⟨rfl, below_then HB.out hb⟩
  have g0 : ((rn : Int) == 0) = false := by simp; omega
  have g1 : ¬ (rn : Int) = 0 := by omega
  obtain ⟨k, hk⟩ : ∃ k : Nat, ws % (rn : Int) = (k : Int) := ⟨(ws % (rn : Int)).toNat, by have := Int.emod_nonneg ws (show (rn : Int) ≠ 0 by omega); omega⟩
  have hkl : (k : Int) < rn := by rw [← hk]; exact Int.emod_lt_of_pos _ (by omega)
  have htm : ws.tmod (rn : Int) = (k : Int) := by rw [Int.tmod_eq_emod_of_nonneg hws.1]; exact hk
  have hw8 : IntKind.i64.wrap ws = ws := by rw [IntKind.wrap_i64]; omega
  have hwt : IntKind.i64.wrap (ws.tmod (rn : Int)) = (k : Int) := by rw [htm, IntKind.wrap_i64]; omega
  have hwk : IntKind.i64.wrap (k : Int) = (k : Int) := by rw [IntKind.wrap_i64]; omega
  have hwk1 : IntKind.i64.wrap ((k : Int) + 1) = (k : Int) + 1 := by rw [IntKind.wrap_i64]; omega
  clear hk
  have hk : k < rn := by omega
  have hk1 : (k : Int) + 1 ≤ (rc : Int) := by omega
  have HRC := hid hrc
  clear hrc
  have hBd : Below w1.heap.size w1 w1.drew := (Below.refl _ _).drew
  go_wp2_with fail
  go_region_held3 (fun w' : World => w'.cell? ⟨w.heap.size, 0, none⟩ = some (.slice a1 n1 c1) ∧ w'.cell? ⟨w.heap.size, 1, none⟩ = some (.slice a2 n2 c2) ∧ w'.cell? ⟨w.heap.size, 2, none⟩ = some (.slice a3 n3 c3) ∧ w'.cell? ⟨w.heap.size + 1, 0, none⟩ = some (.slice wa wn wc) ∧ w'.cell? ⟨w.heap.size + 1, 1, none⟩ = some (.int .i64 out) ∧ w'.cell? ⟨w.heap.size + 1, 2, none⟩ = some (.int .i64 win)) (exact ⟨x0, x1, x2, y0, y1, y2⟩) (first | (go_at_call 19; replace HB := hid (below_then HB.out hBd); replace x0 := cell_grown hBd x0; replace x1 := cell_grown hBd x1; replace x2 := cell_grown hBd x2; replace y0 := cell_grown hBd y0; replace y1 := cell_grown hBd y1; replace y2 := cell_grown hBd y2; replace hLx := hLx.grown hBd; replace hSw := hSw.grown hBd; replace hN := hN.grown hBd; replace hQ := hQ.grown hBd; replace hstd := hstd.grown hBd; refine (lexicon_any l a1 a2 a3 n1 n2 n3 c1 c2 c3 _ H1.out H2.out H3.out q1 q2 q3 (fun N hN => by have := HT.out.m2 N hN; omega) hLx).mono ?_; rintro e wl1 ⟨b1, b2, b3, d1, d2, d3, rfl, hl3, hb1⟩; replace HB := hid (below_then HB.out hb1); replace x0 := cell_grown hb1 x0; replace x1 := cell_grown hb1 x1; replace x2 := cell_grown hb1 x2; replace y0 := cell_grown hb1 y0; replace y1 := cell_grown hb1 y1; replace y2 := cell_grown hb1 y2; replace hLx := hLx.grown hb1; replace hSw := hSw.grown hb1; replace hN := hN.grown hb1; replace hQ := hQ.grown hb1; replace hstd := hstd.grown hb1) | (go_at_call 27; refine (swaps_any S sn sc sa _ HS.out (by omega) hSw).mono ?_; rintro e wl2 ⟨ta, tc, rfl, hT5, hb2⟩; replace HB := hid (below_then HB.out hb2); replace x0 := cell_grown hb2 x0; replace x1 := cell_grown hb2 x1; replace x2 := cell_grown hb2 x2; replace y0 := cell_grown hb2 y0; replace y1 := cell_grown hb2 y1; replace y2 := cell_grown hb2 y2; replace hLx := hLx.grown hb2; replace hSw := hSw.grown hb2; replace hN := hN.grown hb2; replace hQ := hQ.grown hb2; replace hstd := hstd.grown hb2; replace hl3 := hl3.grown hb2) | (go_at_call 32; refine (report_any R out win wn wc wa _ HR.out (by omega) hN).mono ?_; rintro e wl3 ⟨pa, pc, rfl, hpc, hN6, hb3⟩; replace HB := hid (below_then HB.out hb3); replace x0 := cell_grown hb3 x0; replace x1 := cell_grown hb3 x1; replace x2 := cell_grown hb3 x2; replace y0 := cell_grown hb3 y0; replace y1 := cell_grown hb3 y1; replace y2 := cell_grown hb3 y2; replace hLx := hLx.grown hb3; replace hSw := hSw.grown hb3; replace hN := hN.grown hb3; replace hQ := hQ.grown hb3; replace hstd := hstd.grown hb3; replace hl3 := hl3.grown hb3; replace hT5 := hT5.grown hb3) | (go_at_call 34; refine (requests_any L rn rc ra _ HL.out (by omega) hQ HF.out.p).mono ?_; rintro e wl4 ⟨ka, kc, rfl, hQ7, hb4⟩; replace HB := hid (below_then HB.out hb4); replace x0 := cell_grown hb4 x0; replace x1 := cell_grown hb4 x1; replace x2 := cell_grown hb4 x2; replace y0 := cell_grown hb4 y0; replace y1 := cell_grown hb4 y1; replace y2 := cell_grown hb4 y2; replace hLx := hLx.grown hb4; replace hSw := hSw.grown hb4; replace hN := hN.grown hb4; replace hQ := hQ.grown hb4; replace hstd := hstd.grown hb4; replace hl3 := hl3.grown hb4; replace hT5 := hT5.grown hb4; replace hN6 := hN6.grown hb4) | (go_at_call 33; refine (decideF_any l b1 b2 b3 n1 n2 n3 d1 d2 d3 S ta sn tc R pa wn pc out win L ka rn kc _ H1.out H2.out H3.out hl3 HS.out (by unfold maxLen; omega) hT5 HR.out HWN.out hpc hN6 HL.out hQ7 (fun q hq => (HQI.out q hq).2.2.2) hstd).mono ?_; rintro e wl5 ⟨Wd, hbW, hbd, he⟩; rw [if_pos HE0.out] at he; obtain ⟨ab, T, rfl, hTk, hrow⟩ := he; have hb5 := hbW.trans (hbd.mono hbW.size); replace HB := hid (below_then HB.out hb5); replace x0 := cell_grown hb5 x0; replace x1 := cell_grown hb5 x1; replace x2 := cell_grown hb5 x2; replace y0 := cell_grown hb5 y0; replace y1 := cell_grown hb5 y1; replace y2 := cell_grown hb5 y2; replace hLx := hLx.grown hb5; replace hSw := hSw.grown hb5; replace hN := hN.grown hb5; replace hQ := hQ.grown hb5; replace hstd := hstd.grown hb5))
  clear hb1 hb2 hb3 hb4 hl3 hT5 hN6 hQ7 hBd
  replace hrow := IntsAt.of_row hrow
  obtain ⟨qb0, qoff, qpa, qpc, hra, e0, e1, e2, e3, e4, -⟩ := hQ k (by rw [HL.out]; exact hk)
  subst hra
  have hQ1 := reqs_one hQ (k := k) (by rw [HL.out]; exact hk) rfl
  obtain ⟨q, hq⟩ : ∃ q, L.getD k default = q := ⟨_, rfl⟩
  have HQ := hid hq
  rw [hq] at hQ1
  have HTK := hid hTk
  have HE1 := hid (hear_one q HE0.out)
  have hqm : q ∈ L := by rw [← hq, List.getD_eq_getElem?_getD, List.getElem?_eq_getElem (by rw [HL.out]; exact hk), Option.getD_some]; exact List.getElem_mem _
  have HQM := hid hqm
  obtain ⟨Wx, hWx⟩ : ∃ W, W = wl5 := ⟨_, rfl⟩
  rw [← hWx] at x0 x1 x2 y0 y1 y2 hLx hSw hN hQ hQ1 hstd hrow HB ⊢
  clear hWx e0 e1 e2 e3 e4 hq hqm hTk hb5 hbW hbd
  have hBd : Below Wx.heap.size Wx Wx.drew := (Below.refl _ _).drew
  have hrc := HRC.out
  have k0 : (0 : Int) ≤ (k : Int) := by omega
  have k2 : (k : Int) < (rc : Int) := by omega
  have k3 : k < rc := by omega
  have k4 : (k : Int) ≤ (k : Int) + 1 := by omega
  have k5 : (0 : Int) ≤ (k : Int) + 1 := by omega
  have k6 : ((k : Int) + 1).toNat = k + 1 := by omega
  have k7 : k + 1 ≤ rc := by omega
  have k8 : k + 1 - k = 1 := by omega
  clear hrc
  go_wp2_with fail
  go_region_held3 (fun w' : World => w'.cell? ⟨w.heap.size, 0, none⟩ = some (.slice a1 n1 c1) ∧ w'.cell? ⟨w.heap.size, 1, none⟩ = some (.slice a2 n2 c2) ∧ w'.cell? ⟨w.heap.size, 2, none⟩ = some (.slice a3 n3 c3) ∧ w'.cell? ⟨w.heap.size + 1, 0, none⟩ = some (.slice wa wn wc) ∧ w'.cell? ⟨w.heap.size + 1, 1, none⟩ = some (.int .i64 out) ∧ w'.cell? ⟨w.heap.size + 1, 2, none⟩ = some (.int .i64 win)) (exact ⟨x0, x1, x2, y0, y1, y2⟩) (first | (go_at_call 19; replace HB := hid (below_then HB.out hBd); replace x0 := cell_grown hBd x0; replace x1 := cell_grown hBd x1; replace x2 := cell_grown hBd x2; replace y0 := cell_grown hBd y0; replace y1 := cell_grown hBd y1; replace y2 := cell_grown hBd y2; replace hLx := hLx.grown hBd; replace hSw := hSw.grown hBd; replace hN := hN.grown hBd; replace hQ := hQ.grown hBd; replace hQ1 := hQ1.grown hBd; replace hrow := hrow.grown hBd; replace hstd := hstd.grown hBd; refine (lexicon_any l a1 a2 a3 n1 n2 n3 c1 c2 c3 _ H1.out H2.out H3.out q1 q2 q3 (fun N hN => by have := HT.out.m2 N hN; omega) hLx).mono ?_; rintro e wl1x ⟨b1, b2, b3, d1, d2, d3, rfl, hl3, hb1⟩; replace HB := hid (below_then HB.out hb1); replace x0 := cell_grown hb1 x0; replace x1 := cell_grown hb1 x1; replace x2 := cell_grown hb1 x2; replace y0 := cell_grown hb1 y0; replace y1 := cell_grown hb1 y1; replace y2 := cell_grown hb1 y2; replace hLx := hLx.grown hb1; replace hSw := hSw.grown hb1; replace hN := hN.grown hb1; replace hQ := hQ.grown hb1; replace hQ1 := hQ1.grown hb1; replace hrow := hrow.grown hb1; replace hstd := hstd.grown hb1) | (go_at_call 27; refine (swaps_any S sn sc sa _ HS.out (by omega) hSw).mono ?_; rintro e wl2x ⟨ta, tc, rfl, hT5, hb2⟩; replace HB := hid (below_then HB.out hb2); replace x0 := cell_grown hb2 x0; replace x1 := cell_grown hb2 x1; replace x2 := cell_grown hb2 x2; replace y0 := cell_grown hb2 y0; replace y1 := cell_grown hb2 y1; replace y2 := cell_grown hb2 y2; replace hLx := hLx.grown hb2; replace hSw := hSw.grown hb2; replace hN := hN.grown hb2; replace hQ := hQ.grown hb2; replace hQ1 := hQ1.grown hb2; replace hrow := hrow.grown hb2; replace hstd := hstd.grown hb2; replace hl3 := hl3.grown hb2) | (go_at_call 32; refine (report_any R out win wn wc wa _ HR.out (by omega) hN).mono ?_; rintro e wl3x ⟨pa, pc, rfl, hpc, hN6, hb3⟩; replace HB := hid (below_then HB.out hb3); replace x0 := cell_grown hb3 x0; replace x1 := cell_grown hb3 x1; replace x2 := cell_grown hb3 x2; replace y0 := cell_grown hb3 y0; replace y1 := cell_grown hb3 y1; replace y2 := cell_grown hb3 y2; replace hLx := hLx.grown hb3; replace hSw := hSw.grown hb3; replace hN := hN.grown hb3; replace hQ := hQ.grown hb3; replace hQ1 := hQ1.grown hb3; replace hrow := hrow.grown hb3; replace hstd := hstd.grown hb3; replace hl3 := hl3.grown hb3; replace hT5 := hT5.grown hb3) | (go_at_call 34; refine (requests_any [q] 1 (rc - k) (some ⟨qb0, qoff + k * 5, none⟩) _ rfl (by omega) hQ1 (fun q' hq' => by rw [List.mem_singleton] at hq'; subst hq'; exact HF.out.p _ HQM.out)).mono ?_; rintro e wl4x ⟨ka, kc, rfl, hQ7, hb4⟩; replace HB := hid (below_then HB.out hb4); replace x0 := cell_grown hb4 x0; replace x1 := cell_grown hb4 x1; replace x2 := cell_grown hb4 x2; replace y0 := cell_grown hb4 y0; replace y1 := cell_grown hb4 y1; replace y2 := cell_grown hb4 y2; replace hLx := hLx.grown hb4; replace hSw := hSw.grown hb4; replace hN := hN.grown hb4; replace hQ := hQ.grown hb4; replace hQ1 := hQ1.grown hb4; replace hrow := hrow.grown hb4; replace hstd := hstd.grown hb4; replace hl3 := hl3.grown hb4; replace hT5 := hT5.grown hb4; replace hN6 := hN6.grown hb4) | (go_at_call 33; refine (decideF_any l b1 b2 b3 n1 n2 n3 d1 d2 d3 S ta sn tc R pa wn pc out win [q] ka 1 kc _ H1.out H2.out H3.out hl3 HS.out (by unfold maxLen; omega) hT5 HR.out HWN.out hpc hN6 rfl hQ7 (fun q' hq' => by rw [List.mem_singleton] at hq'; subst hq'; exact (HQI.out _ HQM.out).2.2.2) hstd).mono ?_; rintro e wl5x ⟨Wd, hbW, hbd, he⟩; rw [if_pos HE1.out] at he; obtain ⟨ab2, T2, rfl, hTk2, hrow2⟩ := he; have hb5 := hbW.trans (hbd.mono hbW.size); replace HB := hid (below_then HB.out hb5); replace x0 := cell_grown hb5 x0; replace x1 := cell_grown hb5 x1; replace x2 := cell_grown hb5 x2; replace y0 := cell_grown hb5 y0; replace y1 := cell_grown hb5 y1; replace y2 := cell_grown hb5 y2; replace hLx := hLx.grown hb5; replace hSw := hSw.grown hb5; replace hN := hN.grown hb5; replace hQ := hQ.grown hb5; replace hQ1 := hQ1.grown hb5; replace hrow := hrow.grown hb5; replace hstd := hstd.grown hb5))
  clear hb1 hb2 hb3 hb4 hb5 hbW hbd hl3 hT5 hN6 hQ7 hBd x0 x1 x2 hLx hSw hQ1
  clear htm hw8 hwt hwk hwk1 hws hs25 hpc q1 q2 q3 H1 H2 H3 HS y0 y1 y2 hN hk1 k2 k3 k4 k5 k6 k7 k8
  rw [← HQ.out] at hTk2 hrow2
  have hAI := alone_is (E := entries l) (S := S) (R := R) (out := out) (win := win) HTK.out (k := k) (by rw [HL.out]; exact hk) hTk2
  have hown : ∀ j, j < rn → (runA (aloneM (entries l) S R out win L) T).1 j = 0 → OwnOk R out win (L.getD j default) := fun j hj h => own_of_taken HTK.out (by rw [HL.out]; exact hj) h
  obtain ⟨⟨o1, o2⟩, ⟨o3, o4⟩, hw80⟩ := report_of_heard HE0.out
  have HOWN := hid hown
  have HAI := hid hAI
  have a0 := hrow2.cell (i := 0) (by decide)
  clear hown hAI hrow2 hTk2 HTK HE1 HT HF HE0 HQI HWN HRC
  generalize (runA (aloneM (entries l) S R out win L) T).1 = D at hrow HOWN HAI
  generalize (runA (aloneM (entries l) S R out win [L.getD k default]) T2).1 0 = v at a0 HAI
  obtain ⟨Wy, hWy⟩ : ∃ W, W = wl5x := ⟨_, rfl⟩
  rw [← hWy] at hQ hrow hstd a0 HB ⊢
  clear hWy
  obtain ⟨_, _, e, d0⟩ := hrow k hk
  cases e
  rw [Nat.zero_add] at d0
  obtain ⟨dk, hdk⟩ : ∃ z, D k = z := ⟨_, rfl⟩
  rw [hdk] at d0
  have gd := lt_of_cell d0
  have ga := lt_of_cell a0
  by_cases h6 : dk = 6
  case neg =>
    have hv : v = dk := by rw [← hdk]; exact HAI.out.other (by rw [hdk]; exact h6)
    subst hv
    have g6 : (v != 6) = true := by simpa using h6
    clear h6 hdk HAI HOWN hrow hQ
    have hBd : Below Wy.heap.size Wy Wy.drew := (Below.refl _ _).drew
    go_wp2_with fail
    go_region_held3 (fun w' : World => w'.cell? ⟨ab2, 0, none⟩ = some (.int .i64 v) ∧ w'.cell? ⟨ab, k, none⟩ = some (.int .i64 v)) (exact ⟨a0, d0⟩) (first | (go_at_call 17; replace a0 := cell_grown hBd a0; replace d0 := cell_grown hBd d0; refine (awake_any _ (hstd.grown hBd)).mono ?_; rintro e wz ⟨rfl, hb6⟩; have hb7 := hBd.trans (hb6.mono hBd.size); replace a0 := cell_grown hb6 a0; replace d0 := cell_grown hb6 d0))
    go_wp2
    go_ret
    exact ⟨rfl, below_then HB.out hb7⟩
  subst h6
  obtain ⟨hv0, hox, m, hmL, hmk, hDm, -, hmm⟩ := HAI.out.six hdk
  subst hv0
  have HM : Hid (m < rn ∧ m ≠ k ∧ D m = 0 ∧ meetR (L.getD m default).f (L.getD m default).c (L.getD k default).f (L.getD k default).c = true) := hid ⟨by rw [← HL.out]; exact hmL, hmk, hDm, hmm⟩
  have HOX := hid hox
  have HDK := hid hdk
  clear HAI hmL hmk hDm hmm hox hdk
  go_wp2_with fail
  go_loopw [16] (fun i wr => ∃ j : Nat, j ≤ rn ∧ i = .int .i64 j ∧ Hid (NoneM L D k j) ∧ Below Wy.heap.size Wy wr) (fun i _ => rn - (intOf i).toNat)
  case atStart => exact ⟨0, Nat.zero_le _, rfl, hid (fun m h => by omega), Below.refl _ _⟩
  case round =>
    obtain ⟨j, hj, rfl, HN, hBr⟩ := hrel
    replace a0 := cell_grown hBr a0
    replace d0 := cell_grown hBr d0
    have hzr := hBr.size
    have ga := lt_of_cell a0
    have gd := lt_of_cell d0
    by_cases hlt : j < rn
    · have hlt' : (j : Int) < (rn : Int) := by omega
      have j0 : (0 : Int) ≤ (j : Int) := by omega
      obtain ⟨_, _, e, dj⟩ := (hrow.grown hBr) j hlt
      cases e
      rw [Nat.zero_add] at dj
      by_cases hjk : j = k
      · have gjk : ((j : Int) != (k : Int)) = false := by simp; omega
        have HJ : Hid (j = k) := hid hjk
        clear hjk
        go_wp2_with fail
        go_quiet (fail)
        go_wp2
        go_roundw
        case rel => exact ⟨j + 1, by omega, by go_num, hid (HN.out.next fun h => h.1 HJ.out), below_drewN hBr _⟩
        case measure => simp [intOf]; omega
      · have gjk : ((j : Int) != (k : Int)) = true := by simp; omega
        have HJ : Hid (j ≠ k) := hid hjk
        clear hjk
        obtain ⟨z, hz⟩ : ∃ z, D j = z := ⟨_, rfl⟩
        rw [hz] at dj
        by_cases h0 : z = 0
        case neg =>
          have gz : (z == 0) = false := by simpa using h0
          have HZ : Hid (D j ≠ 0) := hid (by rw [hz]; exact h0)
          clear hz h0
          go_wp2_with fail
          go_quiet (fail)
          go_wp2
          go_roundw
          case rel => exact ⟨j + 1, by omega, by go_num, hid (HN.out.next fun h => HZ.out h.2.1), below_drewN hBr _⟩
          case measure => simp [intOf]; omega
        subst h0
        have HZ := hid hz
        have oj := HOWN.out j hlt hz
        have ok := HOX.out
        obtain ⟨_, _, pj, pcj, e, e0, e1, e2, e3, e4, -⟩ := (hQ.grown hBr) j (by rw [HL.out]; exact hlt)
        cases e
        obtain ⟨_, _, pk, pck, e, f0, f1, f2, f3, f4, -⟩ := (hQ.grown hBr) k (by rw [HL.out]; exact hk)
        cases e
        have HNX : Hid (meetR (L.getD j default).f (L.getD j default).c (L.getD k default).f (L.getD k default).c = false → NoneM L D k (j + 1)) := hid (fun h => HN.out.next fun h2 => by rw [h] at h2; exact absurd h2.2.2 (by decide))
        clear hz
        generalize L.getD j default = x at e0 e1 e2 e3 e4 oj HNX
        generalize L.getD k default = y at f0 f1 f2 f3 f4 ok HNX
        obtain ⟨xb, xm, xf, xc, xp⟩ := x
        obtain ⟨yb, ym, yf, yc, yp⟩ := y
        obtain ⟨xn, hxn⟩ : ∃ n, xp.length = n := ⟨_, rfl⟩
        obtain ⟨yn, hyn⟩ : ∃ n, yp.length = n := ⟨_, rfl⟩
        have s1 : 0 ≤ xf ∧ xf ≤ 100 := ⟨oj.f0, by have := oj.fc; have := oj.c0; simp only at *; omega⟩
        have s2 : 0 ≤ xc ∧ xc ≤ 8 := ⟨oj.c0, oj.c8⟩
        have s3 : 0 ≤ yf ∧ yf ≤ 100 := ⟨ok.f0, by have := ok.fc; have := ok.c0; simp only at *; omega⟩
        have s4 : 0 ≤ yc ∧ yc ≤ 8 := ⟨ok.c0, ok.c8⟩
        simp only at e0 e1 e2 e3 e4 f0 f1 f2 f3 f4 HNX
        rw [hxn] at e4
        rw [hyn] at f4
        have hcall : ∀ W, Calls Tryz.prog 50 #[.agg #[.int .i64 xb, .int .i64 xm, .int .i64 xf, .int .i64 xc, .slice pj xn pcj], .agg #[.int .i64 yb, .int .i64 ym, .int .i64 yf, .int .i64 yc, .slice pk yn pck]] W fun e w' => e = .returned (.bool (meetR xf xc yf yc)) ∧ Below W.heap.size W w' :=
          fun W => meetRef_any xb xm xf xc yb ym yf yc pj pk xn pcj yn pck W s1 s2 s3 s4
        have gq := lt_of_cell e0
        have hBd : Below wr.heap.size wr wr.drew := (Below.refl _ _).drew
        have HBR := hid hBr
        clear oj ok s1 s2 s3 s4 hxn hyn hlt o1 o2 o3 o4 hw80 qw hrow hQ
        cases hmt : meetR xf xc yf yc
        all_goals
          rw [hmt] at hcall
          have HMT := hid hmt
          clear hmt
          go_wp2_with fail
          go_region_held3 (fun w' : World => w'.cell? ⟨ab2, 0, none⟩ = some (.int .i64 0) ∧ w'.cell? ⟨ab, k, none⟩ = some (.int .i64 6) ∧ w'.cell? ⟨ab, j, none⟩ = some (.int .i64 0) ∧ w'.cell? ⟨qb0, qoff + j * 5, none⟩ = some (.int .i64 xb) ∧ w'.cell? ⟨qb0, qoff + j * 5 + 1, none⟩ = some (.int .i64 xm) ∧ w'.cell? ⟨qb0, qoff + j * 5 + 2, none⟩ = some (.int .i64 xf) ∧ w'.cell? ⟨qb0, qoff + j * 5 + 3, none⟩ = some (.int .i64 xc) ∧ w'.cell? ⟨qb0, qoff + j * 5 + 4, none⟩ = some (.slice pj xn pcj) ∧ w'.cell? ⟨qb0, qoff + k * 5, none⟩ = some (.int .i64 yb) ∧ w'.cell? ⟨qb0, qoff + k * 5 + 1, none⟩ = some (.int .i64 ym) ∧ w'.cell? ⟨qb0, qoff + k * 5 + 2, none⟩ = some (.int .i64 yf) ∧ w'.cell? ⟨qb0, qoff + k * 5 + 3, none⟩ = some (.int .i64 yc) ∧ w'.cell? ⟨qb0, qoff + k * 5 + 4, none⟩ = some (.slice pk yn pck)) (exact ⟨a0, d0, dj, e0, e1, e2, e3, e4, f0, f1, f2, f3, f4⟩) (first | (go_at_call 50; replace a0 := cell_grown hBd a0; replace d0 := cell_grown hBd d0; replace dj := cell_grown hBd dj; replace e0 := cell_grown hBd e0; replace e1 := cell_grown hBd e1; replace e2 := cell_grown hBd e2; replace e3 := cell_grown hBd e3; replace e4 := cell_grown hBd e4; replace f0 := cell_grown hBd f0; replace f1 := cell_grown hBd f1; replace f2 := cell_grown hBd f2; replace f3 := cell_grown hBd f3; replace f4 := cell_grown hBd f4; refine (hcall _).mono ?_; rintro e w4 ⟨rfl, hb4⟩; have hb5 := hBd.trans (hb4.mono hBd.size); replace a0 := cell_grown hb4 a0; replace d0 := cell_grown hb4 d0; replace dj := cell_grown hb4 dj; replace e0 := cell_grown hb4 e0; replace e1 := cell_grown hb4 e1; replace e2 := cell_grown hb4 e2; replace e3 := cell_grown hb4 e3; replace e4 := cell_grown hb4 e4; replace f0 := cell_grown hb4 f0; replace f1 := cell_grown hb4 f1; replace f2 := cell_grown hb4 f2; replace f3 := cell_grown hb4 f3; replace f4 := cell_grown hb4 f4))
        · go_wp2
          go_roundw
          case rel => exact ⟨j + 1, by omega, by go_num, hid (HNX.out HMT.out), below_then HBR.out hb5⟩
          case measure => simp [intOf]; omega
        · go_wp2_with fail
          refine (awake_any w4 (hstd.grown (below_then HBR.out hb5))).mono ?_
          rintro e wz ⟨rfl, hb6⟩
          go_wp2
          go_ret
          exact ⟨rfl, below_then (below_then (below_then HB.out HBR.out) hb5) hb6⟩
    · exact absurd HM.out.2 (HN.out m (by have := HM.out.1; omega))

end Go.Proofs.YtbampfkmgjfofaaGreatDoor
