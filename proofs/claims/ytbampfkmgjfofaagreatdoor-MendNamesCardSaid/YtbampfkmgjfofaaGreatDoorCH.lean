/- Mend, the laws: the error of all that a decision needs (wrong); whether a statement may play it (ready). -/
import Derived.Test.YtbampfkmgjfofaaGreatDoorCG
namespace Go.Proofs.YtbampfkmgjfofaaGreatDoor
open Go.RowKit

/-- What little there is to be decided. -/
structure FewOk (R : List (Tx × Int)) (L : List Req) : Prop where
  n : R.length ≤ 85
  m : L.length ≤ 25
  s : ∀ x ∈ R, x.1.size ≤ 1000
  p : ∀ q ∈ L, q.put.length ≤ 1000

theorem few_ok {R : List (Tx × Int)} {L : List Req} (h : fewM R L = true) : FewOk R L := by
  unfold fewM at h
  simp only [Bool.and_eq_true, decide_eq_true_eq, List.all_eq_true] at h
  obtain ⟨h1, h2, h3, h4⟩ := h
  exact ⟨h3, h4, fun x hx => by have := h1 x hx; omega, fun q hq => by have := (short_ok (h2 q hq)).1; omega⟩

set_option maxRecDepth 100000 in
set_option maxHeartbeats 4000000 in
theorem wrong_any (l : Lex) (a1 a2 a3 : Option Addr) (n1 n2 n3 c1 c2 c3 : Nat) (S : List (Int × Int × Int)) (sa : Option Addr) (sn sc : Nat) (R : List (Tx × Int)) (out win : Int) (wa : Option Addr) (wn wc : Nat) (L : List Req) (ra : Option Addr) (rn rc : Nat) (w : World)
    (h1 : l.nums.length = n1) (h2 : l.names.length = n2) (h3 : l.nots.length = n3) (hT : ThinOk l) (hLx : LexAt w a1 a2 a3 l) (hs : S.length = sn) (hsn : sn ≤ 1000) (hSw : SwapsAt w sa S) (hR : R.length = wn) (hwn : wn ≤ 1000) (hRs : ∀ x ∈ R, x.1.size ≤ 1000) (hN : Nums w wa R) (hL : L.length = rn) :
    Calls Tryz.prog 36 #[.agg #[.slice a1 n1 c1, .slice a2 n2 c2, .slice a3 n3 c3], .slice sa sn sc, .agg #[.slice wa wn wc, .int .i64 out, .int .i64 win], .slice ra rn rc] w fun e w' => e = .returned (.int .i64 (hearErr l S R out win L)) ∧ Below w.heap.size w w' := by
  obtain ⟨W0, hW0⟩ : ∃ W, W = (w.alloc (.cells #[.slice a1 n1 c1, .slice a2 n2 c2, .slice a3 n3 c3] 26)).alloc (.cells #[.slice wa wn wc, .int .i64 out, .int .i64 win] 56) := ⟨_, rfl⟩
  have hB0 : Below w.heap.size w W0 := by rw [hW0]; exact ((Below.refl _ w).alloc (Nat.le_refl _) _).alloc (by simp) _
  have x0 : W0.cell? ⟨w.heap.size, 0, none⟩ = some (.slice a1 n1 c1) := by rw [hW0]; simp [go_sem]
  have x1 : W0.cell? ⟨w.heap.size, 1, none⟩ = some (.slice a2 n2 c2) := by rw [hW0]; simp [go_sem]
  have x2 : W0.cell? ⟨w.heap.size, 2, none⟩ = some (.slice a3 n3 c3) := by rw [hW0]; simp [go_sem]
  have y0 : W0.cell? ⟨w.heap.size + 1, 0, none⟩ = some (.slice wa wn wc) := by rw [hW0]; simp [go_sem]
  have y1 : W0.cell? ⟨w.heap.size + 1, 1, none⟩ = some (.int .i64 out) := by rw [hW0]; simp [go_sem]
  have y2 : W0.cell? ⟨w.heap.size + 1, 2, none⟩ = some (.int .i64 win) := by rw [hW0]; simp [go_sem]
  have hcon := fault_any l a1 a2 a3 n1 n2 n3 c1 c2 c3 S sa sn sc W0 h1 h2 h3 hT (hLx.grown hB0) hs hsn (hSw.grown hB0)
  have hN0 := hN.grown hB0
  have HR := hid hR
  obtain ⟨z, hz⟩ : ∃ z, hearErr l S R out win L = z := ⟨_, rfl⟩
  rw [hz]
  obtain ⟨re, hre⟩ : ∃ z, readErr l S = z := ⟨_, rfl⟩
  rw [hre] at hcon
  have HZ : Hid ((if re = 0 then (if reportErr R out win = 0 then (if 20 < rn then 3 else 0) else reportErr R out win) else re) = z) := hid (by rw [← hz, hearErr, hre, hL])
  clear h1 h2 h3 hs hR hL hz hre hN
  go_enter Tryz.func36, Tryz.ntmps36
  go_wp2_with fail
  rw [← hW0]
  clear hW0
  refine hcon.mono ?_
  rintro e w1 ⟨rfl, hb⟩
  have hB1 := below_then hB0 hb
  replace y0 := cell_grown hb y0
  replace y1 := cell_grown hb y1
  replace y2 := cell_grown hb y2
  have hN1 := hN0.grown hb
  clear hN0 x0 x1 x2
  by_cases h0 : re = 0
  · subst h0
    have HZ2 : Hid ((if reportErr R out win = 0 then (if 20 < rn then 3 else 0) else reportErr R out win) = z) := hid (by rw [← HZ.out, if_pos rfl])
    clear HZ
    have hrr := rightReport_any R out win wn wc wa w1 HR.out hwn hN1 hRs
    cases hok : reportOk R out win
    · have hz1 : z = 1 := by rw [← HZ2.out, reportErr, hok]; rfl
      rw [hok] at hrr
      subst hz1
      clear hok HZ2
      go_wp2_with fail
      refine hrr.mono ?_
      rintro e w2 ⟨rfl, hb2⟩
      go_wp2
      go_ret
      exact ⟨rfl, below_then hB1 hb2⟩
    · have HZ3 : Hid ((if 20 < rn then 3 else 0) = z) := hid (by rw [← HZ2.out, reportErr, hok]; rfl)
      rw [hok] at hrr
      clear hok HZ2
      go_wp2_with fail
      refine hrr.mono ?_
      rintro e w2 ⟨rfl, hb2⟩
      by_cases h20 : 20 < rn
      · have h20' : (20 : Int) < (rn : Int) := by omega
        have hz3 : z = 3 := by rw [← HZ3.out, if_pos h20]
        subst hz3
        clear HZ3 h20
        go_wp2
        go_ret
        exact ⟨rfl, below_then hB1 hb2⟩
      · have h20' : ¬ (20 : Int) < (rn : Int) := by omega
        have hz3 : z = 0 := by rw [← HZ3.out, if_neg h20]
        subst hz3
        clear HZ3 h20
        go_wp2
        go_ret
        exact ⟨rfl, below_then hB1 hb2⟩
  · have hz : z = re := by rw [← HZ.out, if_neg h0]
    have g0 : (re != 0) = true := by simpa using h0
    subst hz
    clear HZ h0
    go_wp2
    go_ret
    exact ⟨rfl, hB1⟩

/-- May a statement play a decision? -/
def readyM (l : Lex) (S : List (Int × Int × Int)) (R : List (Tx × Int)) (out win : Int) (L : List Req) : Bool := thinM l S.length && (fewM R L && decide (hearErr l S R out win L = 0))

set_option maxRecDepth 100000 in
set_option maxHeartbeats 4000000 in
theorem ready_any (l : Lex) (a1 a2 a3 : Option Addr) (n1 n2 n3 c1 c2 c3 : Nat) (S : List (Int × Int × Int)) (sa : Option Addr) (sn sc : Nat) (R : List (Tx × Int)) (out win : Int) (wa : Option Addr) (wn wc : Nat) (L : List Req) (ra : Option Addr) (rn rc : Nat) (w : World)
    (h1 : l.nums.length = n1) (h2 : l.names.length = n2) (h3 : l.nots.length = n3) (hLx : LexAt w a1 a2 a3 l) (hs : S.length = sn) (hSw : SwapsAt w sa S) (hR : R.length = wn) (hwn : wn ≤ maxLen) (hN : Nums w wa R) (hL : L.length = rn) (hrn : rn ≤ maxLen) (hQ : ReqsAt w ra L) :
    Calls Tryz.prog 44 #[.agg #[.slice a1 n1 c1, .slice a2 n2 c2, .slice a3 n3 c3], .slice sa sn sc, .agg #[.slice wa wn wc, .int .i64 out, .int .i64 win], .slice ra rn rc] w fun e w' => e = .returned (.bool (readyM l S R out win L)) ∧ Below w.heap.size w w' := by
  obtain ⟨W0, hW0⟩ : ∃ W, W = (w.alloc (.cells #[.slice a1 n1 c1, .slice a2 n2 c2, .slice a3 n3 c3] 26)).alloc (.cells #[.slice wa wn wc, .int .i64 out, .int .i64 win] 56) := ⟨_, rfl⟩
  have hB0 : Below w.heap.size w W0 := by rw [hW0]; exact ((Below.refl _ w).alloc (Nat.le_refl _) _).alloc (by simp) _
  have x0 : W0.cell? ⟨w.heap.size, 0, none⟩ = some (.slice a1 n1 c1) := by rw [hW0]; simp [go_sem]
  have x1 : W0.cell? ⟨w.heap.size, 1, none⟩ = some (.slice a2 n2 c2) := by rw [hW0]; simp [go_sem]
  have x2 : W0.cell? ⟨w.heap.size, 2, none⟩ = some (.slice a3 n3 c3) := by rw [hW0]; simp [go_sem]
  have y0 : W0.cell? ⟨w.heap.size + 1, 0, none⟩ = some (.slice wa wn wc) := by rw [hW0]; simp [go_sem]
  have y1 : W0.cell? ⟨w.heap.size + 1, 1, none⟩ = some (.int .i64 out) := by rw [hW0]; simp [go_sem]
  have y2 : W0.cell? ⟨w.heap.size + 1, 2, none⟩ = some (.int .i64 win) := by rw [hW0]; simp [go_sem]
  obtain ⟨z, hz⟩ : ∃ z, readyM l S R out win L = z := ⟨_, rfl⟩
  rw [hz]
  have HZ : Hid ((thinM l sn && (fewM R L && decide (hearErr l S R out win L = 0))) = z) := hid (by rw [← hz, readyM, hs])
  have H1 := hid h1; have H2 := hid h2; have H3 := hid h3; have HS := hid hs; have HR := hid hR; have HL := hid hL; have HWN := hid hwn; have HRN := hid hrn
  replace hLx := hLx.grown hB0
  replace hSw := hSw.grown hB0
  replace hN := hN.grown hB0
  replace hQ := hQ.grown hB0
  clear hz h1 h2 h3 hs hR hL hwn hrn
  have HB := hid hB0
  clear hB0
  go_enter Tryz.func44, Tryz.ntmps44
  go_wp2_with fail
  rw [← hW0]
  clear hW0
  refine (thin_any l a1 a2 a3 sa n1 n2 n3 c1 c2 c3 sn sc W0 H1.out H2.out H3.out hLx).mono ?_
  rintro e w1 ⟨rfl, hb⟩
  replace HB := hid (below_then HB.out hb)
  replace x0 := cell_grown hb x0
  replace x1 := cell_grown hb x1
  replace x2 := cell_grown hb x2
  replace y0 := cell_grown hb y0
  replace y1 := cell_grown hb y1
  replace y2 := cell_grown hb y2
  replace hLx := hLx.grown hb
  replace hSw := hSw.grown hb
  replace hN := hN.grown hb
  replace hQ := hQ.grown hb
  clear hb
  cases ht : thinM l sn
  · have hzf : z = false := by rw [← HZ.out, ht]; rfl
    clear ht
    go_wp2
    go_ret
    exact ⟨by first | rfl | (rw [hzf]; rfl), HB.out⟩
  have HZ2 : Hid ((fewM R L && decide (hearErr l S R out win L = 0)) = z) := hid (by rw [← HZ.out, ht, Bool.true_and])
  have HT := hid (thin_ok ht).1
  have s25 := (thin_ok ht).2
  clear ht HZ
  go_wp2_with fail
  refine (few_any R out win wn wc wa L rn rc ra w1 HR.out HWN.out hN HL.out HRN.out hQ).mono ?_
  rintro e w2 ⟨rfl, hb⟩
  replace HB := hid (below_then HB.out hb)
  replace x0 := cell_grown hb x0
  replace x1 := cell_grown hb x1
  replace x2 := cell_grown hb x2
  replace y0 := cell_grown hb y0
  replace y1 := cell_grown hb y1
  replace y2 := cell_grown hb y2
  replace hLx := hLx.grown hb
  replace hSw := hSw.grown hb
  replace hN := hN.grown hb
  clear hb hQ
  cases ht : fewM R L
  · have hzf : z = false := by rw [← HZ2.out, ht]; rfl
    clear ht
    go_wp2
    go_ret
    exact ⟨by first | rfl | (rw [hzf]; rfl), HB.out⟩
  have HZ3 : Hid (decide (hearErr l S R out win L = 0) = z) := hid (by rw [← HZ2.out, ht, Bool.true_and])
  have HF := hid (few_ok ht)
  clear ht HZ2
  have hcon := wrong_any l a1 a2 a3 n1 n2 n3 c1 c2 c3 S sa sn sc R out win wa wn wc L ra rn rc w2 H1.out H2.out H3.out HT.out hLx HS.out (by omega) hSw HR.out (by have := HF.out.n; rw [HR.out] at this; omega) HF.out.s hN HL.out
  generalize hearErr l S R out win L = he at hcon HZ3
  by_cases h0 : he = 0
  · have hzt : z = true := by rw [← HZ3.out, h0]; rfl
    subst h0
    go_wp2_with (go_at_call 36; refine hcon.mono ?_; rintro e w3 ⟨rfl, hb⟩)
    go_ret
    exact ⟨by first | rfl | (rw [hzt]; rfl), below_then HB.out hb⟩
  · have hzf : z = false := by rw [← HZ3.out]; simpa using h0
    have g0 : (he == 0) = false := by simpa using h0
    clear h0
    go_wp2_with (go_at_call 36; refine hcon.mono ?_; rintro e w3 ⟨rfl, hb⟩)
    go_ret
    exact ⟨by first | rfl | (rw [hzf]; rfl), below_then HB.out hb⟩

end Go.Proofs.YtbampfkmgjfofaaGreatDoor
