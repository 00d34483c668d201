/- Mend: the law MendBoth, walked. -/
import Derived.Test.YtbampfkmgjfofaaGreatDoorCJ
import Derived.Test.YtbampfkmgjfofaaGreatDoorCK
import Derived.Test.YtbampfkmgjfofaaGreatDoorDF
import Derived.Test.YtbampfkmgjfofaaGreatDoorDG
import Derived.Deep.RegionHeld3
import Derived.IntWalk
import Derived.Deep.QuietTactic
import Derived.BigQuiet
namespace Go.Proofs.YtbampfkmgjfofaaGreatDoor
open Go.RowKit

/-- How many words the first segments take. -/
def atS (G : List Seg) (k : Nat) : Nat := ((G.take k).map fun s => s.1.length).sum

theorem atS_next {G : List Seg} {k : Nat} (hk : k < G.length) : atS G (k + 1) = atS G k + (G.getD k default).1.length := by
  unfold atS
  rw [List.take_add_one, List.getElem?_eq_getElem hk, List.getD_eq_getElem?_getD, List.getElem?_eq_getElem hk, List.map_append, List.sum_append]
  simp

/-- Was the one before changed by none? -/
def noneB (G : List Seg) (k : Nat) : Bool := decide (0 < k) && decide ((G.getD (k - 1) default).2.2 < 0)

theorem fine_at {R : List (Tx × Int)} {rn : Nat} {F C : Nat → Int} {P : Nat → List Tx} : ∀ {G : List Seg} {a : Nat} {z : Bool} {k : Nat}, SegsFine R rn F C P a z G → k < G.length →
    SegFine R rn F C P (a + atS G k) (if k = 0 then z else noneB G k) (G.getD k default)
  | [], _, _, _, _, hk => by simp at hk
  | s :: r, a, z, 0, h, _ => by
    rw [if_pos rfl]
    simpa [atS] using h.1
  | s :: r, a, z, k + 1, h, hk => by
    have h2 := fine_at (k := k) h.2 (by simpa using hk)
    rw [if_neg (by omega)]
    have e1 : a + atS (s :: r) (k + 1) = a + s.1.length + atS r k := by
      unfold atS
      simp
      omega
    have e2 : (s :: r).getD (k + 1) default = r.getD k default := by simp [List.getD_eq_getElem?_getD]
    have e3 : noneB (s :: r) (k + 1) = if k = 0 then decide (s.2.2 < 0) else noneB r k := by
      unfold noneB
      cases k with
      | zero => simp [List.getD_eq_getElem?_getD]
      | succ k => simp [List.getD_eq_getElem?_getD]
    rw [e1, e2, e3]
    exact h2

theorem fine_end {R : List (Tx × Int)} {rn : Nat} {F C : Nat → Int} {P : Nat → List Tx} : ∀ {G : List Seg} {a : Nat} {z : Bool}, SegsFine R rn F C P a z G → a + atS G G.length = R.length
  | [], a, _, h => by
    have h' : a = R.length := h
    simpa [atS] using h'
  | s :: r, a, z, h => by
    have h2 := fine_end h.2
    have e1 : atS (s :: r) (s :: r).length = s.1.length + atS r r.length := by
      unfold atS
      simp
    omega

/-- How often the first segments have a request. -/
def seenS (G : List Seg) (k i : Nat) : Int := (timesS i (G.take k) : Int)

theorem times_take (i k : Nat) (G : List Seg) : timesS i (G.take k) ≤ timesS i G := by
  have h := times_append i (G.take k) (G.drop k)
  rw [List.take_append_drop] at h
  omega

theorem seen_next {G : List Seg} {k i : Nat} (hk : k < G.length) : seenS G (k + 1) i = seenS G k i + if (G.getD k default).2.2 = (i : Int) then 1 else 0 := by
  unfold seenS
  rw [take_step default hk, times_append]
  have e : timesS i [G.getD k default] = if (G.getD k default).2.2 = (i : Int) then 1 else 0 := by
    unfold timesS
    split
    · rename_i h
      rw [List.filter_cons_of_pos (by simpa using h)]; rfl
    · rename_i h
      rw [List.filter_cons_of_neg (by simpa using h)]; rfl
  rw [e]
  split <;> simp

set_option maxRecDepth 100000 in
set_option maxHeartbeats 8000000 in
theorem mendBoth_any (l : Lex) (a1 a2 a3 : Option Addr) (n1 n2 n3 c1 c2 c3 : Nat) (S : List (Int × Int × Int)) (sa : Option Addr) (sn sc : Nat) (R : List (Tx × Int)) (out win : Int) (wa : Option Addr) (wn wc : Nat) (L : List Req) (ra : Option Addr) (rn rc : Nat) (w : World)
    (h1 : l.nums.length = n1) (h2 : l.names.length = n2) (h3 : l.nots.length = n3) (hLx : LexAt w a1 a2 a3 l) (hs : S.length = sn) (hSw : SwapsAt w sa S) (hR : R.length = wn) (hwn : wn ≤ maxLen) (hN : Nums w wa R) (hL : L.length = rn) (hrn : rn ≤ maxLen) (hQ : ReqsAt w ra L) (hqI : ∀ q ∈ L, ReqI q) (hstd : Std w) :
    Calls Tryz.prog 9 #[.agg #[.slice a1 n1 c1, .slice a2 n2 c2, .slice a3 n3 c3], .slice sa sn sc, .agg #[.slice wa wn wc, .int .i64 out, .int .i64 win], .slice ra rn rc] w fun e w' => e = .returned (.bool true) ∧ Below w.heap.size w w' := by
  have H1 := hid h1; have H2 := hid h2; have H3 := hid h3; have HS := hid hs; have HR := hid hR; have HL := hid hL; have HWN := hid hwn; have HRN := hid hrn; have HQI := hid hqI
  clear h1 h2 h3 hs hR hL hwn hrn hqI
  obtain ⟨W0, hW0⟩ : ∃ W, W = (w.alloc (.cells #[.slice a1 n1 c1, .slice a2 n2 c2, .slice a3 n3 c3] 26)).alloc (.cells #[.slice wa wn wc, .int .i64 out, .int .i64 win] 56) := ⟨_, rfl⟩
  have hB0 : Below w.heap.size w W0 := by rw [hW0]; exact ((Below.refl _ w).alloc (Nat.le_refl _) _).alloc (by simp) _
  have x0 : W0.cell? ⟨w.heap.size, 0, none⟩ = some (.slice a1 n1 c1) := by rw [hW0]; simp [go_sem]
  have x1 : W0.cell? ⟨w.heap.size, 1, none⟩ = some (.slice a2 n2 c2) := by rw [hW0]; simp [go_sem]
  have x2 : W0.cell? ⟨w.heap.size, 2, none⟩ = some (.slice a3 n3 c3) := by rw [hW0]; simp [go_sem]
  have y0 : W0.cell? ⟨w.heap.size + 1, 0, none⟩ = some (.slice wa wn wc) := by rw [hW0]; simp [go_sem]
  have y1 : W0.cell? ⟨w.heap.size + 1, 1, none⟩ = some (.int .i64 out) := by rw [hW0]; simp [go_sem]
  have y2 : W0.cell? ⟨w.heap.size + 1, 2, none⟩ = some (.int .i64 win) := by rw [hW0]; simp [go_sem]
  replace hLx := hLx.grown hB0
  replace hSw := hSw.grown hB0
  replace hN := hN.grown hB0
  replace hQ := hQ.grown hB0
  replace hstd := hstd.grown hB0
  have HB := hid hB0
  clear hB0
  go_enter Tryz.func9, Tryz.ntmps9
  go_wp2_with fail
  rw [← hW0]
  clear hW0
  refine (ready_any l a1 a2 a3 n1 n2 n3 c1 c2 c3 S sa sn sc R out win wa wn wc L ra rn rc W0 H1.out H2.out H3.out hLx HS.out hSw HR.out HWN.out hN HL.out HRN.out hQ).mono ?_
  rintro e w1 ⟨rfl, hb⟩
  replace HB := hid (below_then HB.out hb)
  replace x0 := cell_grown hb x0
  replace x1 := cell_grown hb x1
  replace x2 := cell_grown hb x2
  replace y0 := cell_grown hb y0
  replace y1 := cell_grown hb y1
  replace y2 := cell_grown hb y2
  replace hLx := hLx.grown hb
  replace hSw := hSw.grown hb
  replace hN := hN.grown hb
  replace hQ := hQ.grown hb
  replace hstd := hstd.grown hb
  clear hb
  cases ht : readyM l S R out win L
  · clear ht
    go_wp2_with fail
    refine (awake_any w1 hstd).mono ?_
    rintro e wz ⟨rfl, hb⟩
    go_wp2
    go_ret
    exact ⟨rfl, below_then HB.out hb⟩
  obtain ⟨hT, hs25, hF, hE0⟩ := ready_ok ht
  have HT := hid hT
  have HF := hid hF
  have HE0 := hid hE0
  rw [HS.out] at hs25
  clear ht hT hF hE0
  obtain ⟨q1, q2, q3⟩ := thin_sizes HT.out H1.out H2.out H3.out
  have qw : wn ≤ 85 := by have := HF.out.n; rw [HR.out] at this; exact this
  have qr : rn ≤ 25 := by have := HF.out.m; rw [HL.out] at this; exact this
  have hBd : Below w1.heap.size w1 w1.drew := (Below.refl _ _).drew
  go_wp2_with fail
  go_region_held3 (fun w' : World => w'.cell? ⟨w.heap.size, 0, none⟩ = some (.slice a1 n1 c1) ∧ w'.cell? ⟨w.heap.size, 1, none⟩ = some (.slice a2 n2 c2) ∧ w'.cell? ⟨w.heap.size, 2, none⟩ = some (.slice a3 n3 c3) ∧ w'.cell? ⟨w.heap.size + 1, 0, none⟩ = some (.slice wa wn wc) ∧ w'.cell? ⟨w.heap.size + 1, 1, none⟩ = some (.int .i64 out) ∧ w'.cell? ⟨w.heap.size + 1, 2, none⟩ = some (.int .i64 win)) (exact ⟨x0, x1, x2, y0, y1, y2⟩) (first | (go_at_call 19; replace HB := hid (below_then HB.out hBd); replace x0 := cell_grown hBd x0; replace x1 := cell_grown hBd x1; replace x2 := cell_grown hBd x2; replace y0 := cell_grown hBd y0; replace y1 := cell_grown hBd y1; replace y2 := cell_grown hBd y2; replace hLx := hLx.grown hBd; replace hSw := hSw.grown hBd; replace hN := hN.grown hBd; replace hQ := hQ.grown hBd; replace hstd := hstd.grown hBd; refine (lexicon_any l a1 a2 a3 n1 n2 n3 c1 c2 c3 _ H1.out H2.out H3.out q1 q2 q3 (fun N hN => by have := HT.out.m2 N hN; omega) hLx).mono ?_; rintro e wl1 ⟨b1, b2, b3, d1, d2, d3, rfl, hl3, hb1⟩; replace HB := hid (below_then HB.out hb1); replace x0 := cell_grown hb1 x0; replace x1 := cell_grown hb1 x1; replace x2 := cell_grown hb1 x2; replace y0 := cell_grown hb1 y0; replace y1 := cell_grown hb1 y1; replace y2 := cell_grown hb1 y2; replace hLx := hLx.grown hb1; replace hSw := hSw.grown hb1; replace hN := hN.grown hb1; replace hQ := hQ.grown hb1; replace hstd := hstd.grown hb1) | (go_at_call 27; refine (swaps_any S sn sc sa _ HS.out (by omega) hSw).mono ?_; rintro e wl2 ⟨ta, tc, rfl, hT5, hb2⟩; replace HB := hid (below_then HB.out hb2); replace x0 := cell_grown hb2 x0; replace x1 := cell_grown hb2 x1; replace x2 := cell_grown hb2 x2; replace y0 := cell_grown hb2 y0; replace y1 := cell_grown hb2 y1; replace y2 := cell_grown hb2 y2; replace hLx := hLx.grown hb2; replace hSw := hSw.grown hb2; replace hN := hN.grown hb2; replace hQ := hQ.grown hb2; replace hstd := hstd.grown hb2; replace hl3 := hl3.grown hb2) | (go_at_call 32; refine (report_any R out win wn wc wa _ HR.out (by omega) hN).mono ?_; rintro e wl3 ⟨pa, pc, rfl, hpc, hN6, hb3⟩; replace HB := hid (below_then HB.out hb3); replace x0 := cell_grown hb3 x0; replace x1 := cell_grown hb3 x1; replace x2 := cell_grown hb3 x2; replace y0 := cell_grown hb3 y0; replace y1 := cell_grown hb3 y1; replace y2 := cell_grown hb3 y2; replace hLx := hLx.grown hb3; replace hSw := hSw.grown hb3; replace hN := hN.grown hb3; replace hQ := hQ.grown hb3; replace hstd := hstd.grown hb3; replace hl3 := hl3.grown hb3; replace hT5 := hT5.grown hb3) | (go_at_call 34; refine (requests_any L rn rc ra _ HL.out (by omega) hQ HF.out.p).mono ?_; rintro e wl4 ⟨ka, kc, rfl, hQ7, hb4⟩; replace HB := hid (below_then HB.out hb4); replace x0 := cell_grown hb4 x0; replace x1 := cell_grown hb4 x1; replace x2 := cell_grown hb4 x2; replace y0 := cell_grown hb4 y0; replace y1 := cell_grown hb4 y1; replace y2 := cell_grown hb4 y2; replace hLx := hLx.grown hb4; replace hSw := hSw.grown hb4; replace hN := hN.grown hb4; replace hQ := hQ.grown hb4; replace hstd := hstd.grown hb4; replace hl3 := hl3.grown hb4; replace hT5 := hT5.grown hb4; replace hN6 := hN6.grown hb4) | (go_at_call 38; refine (versionsF_any l b1 b2 b3 n1 n2 n3 d1 d2 d3 S ta sn tc R pa wn pc out win L ka rn kc _ H1.out H2.out H3.out hl3 HS.out (by unfold maxLen; omega) hT5 HR.out HWN.out hpc hN6 HL.out hQ7 (fun q hq => (HQI.out q hq).2.2.2) hstd).mono ?_; rintro e wl5 ⟨hb5, he⟩; rw [if_pos HE0.out] at he; obtain ⟨sg, sgn, sgc, Q, rfl, hPO, hSL, hSG⟩ := he; replace HB := hid (below_then HB.out hb5); replace x0 := cell_grown hb5 x0; replace x1 := cell_grown hb5 x1; replace x2 := cell_grown hb5 x2; replace y0 := cell_grown hb5 y0; replace y1 := cell_grown hb5 y1; replace y2 := cell_grown hb5 y2; replace hLx := hLx.grown hb5; replace hSw := hSw.grown hb5; replace hN := hN.grown hb5; replace hQ := hQ.grown hb5; replace hstd := hstd.grown hb5))
  clear hb1 hb2 hb3 hb4 hb5 hl3 hT5 hN6 hQ7 hBd
  obtain ⟨Wv, hWv⟩ : ∃ W, W = wl5 := ⟨_, rfl⟩
  rw [← hWv] at x0 x1 x2 y0 y1 y2 hLx hSw hN hQ hSG hstd HB ⊢
  clear hWv
  have HPO := hid hPO
  clear hPO
  have hBd : Below Wv.heap.size Wv Wv.drew := (Below.refl _ _).drew
  go_wp2_with fail
  go_region_held3 (fun w' : World => w'.cell? ⟨w.heap.size, 0, none⟩ = some (.slice a1 n1 c1) ∧ w'.cell? ⟨w.heap.size, 1, none⟩ = some (.slice a2 n2 c2) ∧ w'.cell? ⟨w.heap.size, 2, none⟩ = some (.slice a3 n3 c3) ∧ w'.cell? ⟨w.heap.size + 1, 0, none⟩ = some (.slice wa wn wc) ∧ w'.cell? ⟨w.heap.size + 1, 1, none⟩ = some (.int .i64 out) ∧ w'.cell? ⟨w.heap.size + 1, 2, none⟩ = some (.int .i64 win)) (exact ⟨x0, x1, x2, y0, y1, y2⟩) (first | (go_at_call 19; replace HB := hid (below_then HB.out hBd); replace x0 := cell_grown hBd x0; replace x1 := cell_grown hBd x1; replace x2 := cell_grown hBd x2; replace y0 := cell_grown hBd y0; replace y1 := cell_grown hBd y1; replace y2 := cell_grown hBd y2; replace hLx := hLx.grown hBd; replace hSw := hSw.grown hBd; replace hN := hN.grown hBd; replace hQ := hQ.grown hBd; replace hSG := hSG.grown hBd; replace hstd := hstd.grown hBd; refine (lexicon_any l a1 a2 a3 n1 n2 n3 c1 c2 c3 _ H1.out H2.out H3.out q1 q2 q3 (fun N hN => by have := HT.out.m2 N hN; omega) hLx).mono ?_; rintro e wl1x ⟨b1, b2, b3, d1, d2, d3, rfl, hl3, hb1⟩; replace HB := hid (below_then HB.out hb1); replace x0 := cell_grown hb1 x0; replace x1 := cell_grown hb1 x1; replace x2 := cell_grown hb1 x2; replace y0 := cell_grown hb1 y0; replace y1 := cell_grown hb1 y1; replace y2 := cell_grown hb1 y2; replace hLx := hLx.grown hb1; replace hSw := hSw.grown hb1; replace hN := hN.grown hb1; replace hQ := hQ.grown hb1; replace hSG := hSG.grown hb1; replace hstd := hstd.grown hb1) | (go_at_call 27; refine (swaps_any S sn sc sa _ HS.out (by omega) hSw).mono ?_; rintro e wl2x ⟨ta, tc, rfl, hT5, hb2⟩; replace HB := hid (below_then HB.out hb2); replace x0 := cell_grown hb2 x0; replace x1 := cell_grown hb2 x1; replace x2 := cell_grown hb2 x2; replace y0 := cell_grown hb2 y0; replace y1 := cell_grown hb2 y1; replace y2 := cell_grown hb2 y2; replace hLx := hLx.grown hb2; replace hSw := hSw.grown hb2; replace hN := hN.grown hb2; replace hQ := hQ.grown hb2; replace hSG := hSG.grown hb2; replace hstd := hstd.grown hb2; replace hl3 := hl3.grown hb2) | (go_at_call 32; refine (report_any R out win wn wc wa _ HR.out (by omega) hN).mono ?_; rintro e wl3x ⟨pa, pc, rfl, hpc, hN6, hb3⟩; replace HB := hid (below_then HB.out hb3); replace x0 := cell_grown hb3 x0; replace x1 := cell_grown hb3 x1; replace x2 := cell_grown hb3 x2; replace y0 := cell_grown hb3 y0; replace y1 := cell_grown hb3 y1; replace y2 := cell_grown hb3 y2; replace hLx := hLx.grown hb3; replace hSw := hSw.grown hb3; replace hN := hN.grown hb3; replace hQ := hQ.grown hb3; replace hSG := hSG.grown hb3; replace hstd := hstd.grown hb3; replace hl3 := hl3.grown hb3; replace hT5 := hT5.grown hb3) | (go_at_call 34; refine (requests_any L rn rc ra _ HL.out (by omega) hQ HF.out.p).mono ?_; rintro e wl4x ⟨ka, kc, rfl, hQ7, hb4⟩; replace HB := hid (below_then HB.out hb4); replace x0 := cell_grown hb4 x0; replace x1 := cell_grown hb4 x1; replace x2 := cell_grown hb4 x2; replace y0 := cell_grown hb4 y0; replace y1 := cell_grown hb4 y1; replace y2 := cell_grown hb4 y2; replace hLx := hLx.grown hb4; replace hSw := hSw.grown hb4; replace hN := hN.grown hb4; replace hQ := hQ.grown hb4; replace hSG := hSG.grown hb4; replace hstd := hstd.grown hb4; replace hl3 := hl3.grown hb4; replace hT5 := hT5.grown hb4; replace hN6 := hN6.grown hb4) | (go_at_call 33; refine (decideF_any l b1 b2 b3 n1 n2 n3 d1 d2 d3 S ta sn tc R pa wn pc out win L ka rn kc _ H1.out H2.out H3.out hl3 HS.out (by unfold maxLen; omega) hT5 HR.out HWN.out hpc hN6 HL.out hQ7 (fun q hq => (HQI.out q hq).2.2.2) hstd).mono ?_; rintro e wl5x ⟨Wd, hbW, hbd, he⟩; rw [if_pos HE0.out] at he; obtain ⟨ab, T, rfl, hTk, hrow⟩ := he; have hb5 := hbW.trans (hbd.mono hbW.size); replace HB := hid (below_then HB.out hb5); replace x0 := cell_grown hb5 x0; replace x1 := cell_grown hb5 x1; replace x2 := cell_grown hb5 x2; replace y0 := cell_grown hb5 y0; replace y1 := cell_grown hb5 y1; replace y2 := cell_grown hb5 y2; replace hLx := hLx.grown hb5; replace hSw := hSw.grown hb5; replace hN := hN.grown hb5; replace hQ := hQ.grown hb5; replace hSG := hSG.grown hb5; replace hstd := hstd.grown hb5))
  clear hb1 hb2 hb3 hb4 hb5 hbW hbd hl3 hT5 hN6 hQ7 hBd x0 x1 x2 hLx hSw
  rw [(run_order (l := l) (S := S) (R := R) (out := out) (win := win) hTk).1] at hrow
  clear hTk
  have hfin := segM_fine (R := R) (rn := rn) (F := fun i => (L.getD i default).f) (C := fun i => (L.getD i default).c) (P := putM L) HPO.out.flow (fun x hx => by
    obtain ⟨h1, h2, h3, h4⟩ := HPO.out.mem x hx
    exact ⟨by rw [← HL.out]; exact h1, h2.symm, h3.symm, (alone_fit h4).2.2.2.2.1⟩)
  have hfend := fine_end hfin
  have hseen : ∀ i, i < rn → (timesS i (segM R (putM L) Q) = 1 ↔ decideM l S R out win L i = 0) ∧ timesS i (segM R (putM L) Q) ≤ 1 := fun i hi => by
    rw [segM_times]
    have h1 := List.nodup_iff_count.1 HPO.out.nodup i
    refine ⟨?_, h1⟩
    have h2 := HPO.out.idx i
    rw [HL.out] at h2
    constructor
    · intro h
      exact (h2.1 (List.count_pos_iff.1 (by omega))).2
    · intro h
      have := List.count_pos_iff.2 (h2.2 ⟨hi, h⟩)
      omega
  have hsg := segM_length (R := R) (P := putM L) (Q := Q)
  have hQf := HPO.out.few
  rw [HL.out] at hQf
  have hrn20 : rn ≤ 20 := by have := (heard_small HE0.out).2; rw [HL.out] at this; exact this
  have hsgn : sgn ≤ 41 := by omega
  have HFIN := hid hfin
  have HFE := hid hfend
  have HSE := hid hseen
  generalize hGG : segM R (putM L) Q = G at hSG hSL HFIN HFE HSE
  generalize hDD : decideM l S R out win L = D at hrow HSE
  clear hfin hfend hseen hGG hDD hsg hQf
  obtain ⟨⟨o1, o2⟩, ⟨o3, o4⟩, hw80⟩ := report_of_heard HE0.out
  rw [HR.out] at hw80
  have HSL := hid hSL
  clear hSL
  obtain ⟨Wy, hWy⟩ : ∃ W, W = wl5x := ⟨_, rfl⟩
  rw [← hWy] at y0 y1 y2 hN hQ hSG hrow hstd HB ⊢
  clear hWy
  have hmk : ∀ W : World, (Instr.makeSlice 71 (.int .i64 (rn : Int)) (.int .i64 (rn : Int))).run Tryz.prog W = .ok (.slice (some ⟨W.heap.size, 0, none⟩) rn rn) (W.alloc (.cells (madeCells #[.int .i64 0] rn) 3)) := fun W =>
    run_make_row' (P := Tryz.prog) 71 3 (.int .i64 0) 8 Tryz.underlying71 Tryz.info3 rfl .i64 .i64 rn (by omega) (by omega) W
  obtain ⟨Wz, hWz⟩ : ∃ W, W = Wy.alloc (.cells (madeCells #[.int .i64 0] rn) 3) := ⟨_, rfl⟩
  have hBz : Below Wy.heap.size Wy Wz := by rw [hWz]; exact below_alloc Wy _
  have zz : Wz.heap.size = Wy.heap.size + 1 := by rw [hWz]; simp
  have hsn0 : Wz.rowIs Wy.heap.size 3 rn (fun _ => .int .i64 0) := by rw [hWz]; exact World.rowIs_made Wy (.int .i64 0) rn 3
  go_wp2_with fail
  rw [← hWz]
  clear hWz hmk
  have hwb := lt_of_cell y0
  replace y0 := cell_grown hBz y0
  replace y1 := cell_grown hBz y1
  replace y2 := cell_grown hBz y2
  have gy := lt_of_cell y0
  have HBZ := hid hBz
  have HSN : Hid (Wz.rowIs Wy.heap.size 3 rn (fun i => .int .i64 (seenS G 0 i))) := hid (hsn0.congr (fun i _ => by simp [seenS, timesS]))
  clear hBz hsn0
  go_loopw [13, 15] (fun a i wr => ∃ k : Nat, k ≤ sgn ∧ i = .int .i64 k ∧ a = .int .i64 (atS G k : Nat) ∧ wr.rowIs Wy.heap.size 3 rn (fun i => .int .i64 (seenS G k i)) ∧ But1 Wy.heap.size Wz wr) (fun _ i _ => sgn - (intOf i).toNat)
  case atStart => exact ⟨0, Nat.zero_le _, rfl, rfl, HSN.out, But1.refl _ _⟩
  case round =>
    obtain ⟨k, hk, rfl, rfl, hsn, hBt⟩ := hrel
    have hzr := hBt.size
    have hBy : Below Wy.heap.size Wy wr := hBt.below HBZ.out (Nat.le_refl _) (by omega)
    have u0 : wr.cell? ⟨w.heap.size + 1, 0, none⟩ = some (.slice wa wn wc) := hBt.cell (by omega) y0
    have u1 : wr.cell? ⟨w.heap.size + 1, 1, none⟩ = some (.int .i64 out) := hBt.cell (by omega) y1
    have u2 : wr.cell? ⟨w.heap.size + 1, 2, none⟩ = some (.int .i64 win) := hBt.cell (by omega) y2
    by_cases hlt : k < sgn
    · have hlt' : (k : Int) < (sgn : Int) := by omega
      have k0 : (0 : Int) ≤ (k : Int) := by omega
      have hkG : k < G.length := by rw [HSL.out]; exact hlt
      obtain ⟨gb, goff, ai, ci, bi, di, hg, c0, c1, c2, s0, s1⟩ := (hSG.grown hBy) k hkG
      have hfa := fine_at HFIN.out hkG
      rw [Nat.zero_add] at hfa
      have han := atS_next hkG
      have hse := fun i => seen_next (i := i) hkG
      have hprev : ∀ j, j + 1 = k → wr.cell? ⟨gb, goff + j * 3 + 2, none⟩ = some (.int .i64 (G.getD j default).2.2) := fun j hj => by
        obtain ⟨gb', goff', -, -, -, -, hg', -, -, c2', -, -⟩ := (hSG.grown hBy) j (by omega)
        rw [hg] at hg'
        cases hg'
        exact c2'
      generalize G.getD k default = sgm at c0 c1 c2 s0 s1 hfa han hse
      obtain ⟨so, sw, sr⟩ := sgm
      simp only at c0 c1 c2 s0 s1 han hse
      obtain ⟨on, hon⟩ : ∃ n, so.length = n := ⟨_, rfl⟩
      obtain ⟨nn, hnn⟩ : ∃ n, sw.length = n := ⟨_, rfl⟩
      obtain ⟨f1, f2, f3, f4, f5, f6, f7⟩ := hfa
      simp only at f1 f2 f3 f4 f5 f6 f7
      rw [hon] at c0 f1 f4 f5 f7 han
      rw [hnn] at c1 f1
      obtain ⟨an, hanE⟩ : ∃ n, atS G k = n := ⟨_, rfl⟩
      rw [hanE] at f4 f5 f7 han ⊢
      subst hg
      rw [HR.out] at f4
      have gq0 := lt_of_cell c0
      have HON := hid hon
      have HNN := hid hnn
      have HAN := hid han
      have HSEN := hid hse
      have HPV := hid hprev
      have HF5 := hid f5
      have HF6 := hid f6
      have HF7 := hid f7
      have hnn8 : nn ≤ 1000 := by
        by_cases h0 : sr < 0
        · have h1 := (f6 h0).1
          rw [← hnn, ← h1, hon]; omega
        · have h1 := (f7 (by omega)).2.2
          have h2 := HF.out.p (L.getD sr.toNat default) (by
            have : sr.toNat < L.length := by rw [HL.out]; omega
            rw [List.getD_eq_getElem?_getD, List.getElem?_eq_getElem this, Option.getD_some]; exact List.getElem_mem _)
          rw [← hnn, h1]; exact h2
      have g1 : ((on : Int) + (nn : Int) == 0) = false := by simp; omega
      have g2 : decide (sr < -1) = false := by simp; omega
      have g3 : decide ((rn : Int) ≤ sr) = false := by simp; omega
      have g4 : decide ((wn : Int) < (an : Int) + (on : Int)) = false := by simp; omega
      have hw1 : IntKind.i64.wrap ((on : Int) + (nn : Int)) = (on : Int) + (nn : Int) := by rw [IntKind.wrap_i64]; omega
      have hw2 : IntKind.i64.wrap ((an : Int) + (on : Int)) = (an : Int) + (on : Int) := by rw [IntKind.wrap_i64]; omega
      have hsm : decide (so = textsM R an on) = true := by rw [decide_eq_true_eq]; exact f5
      have HSM := hid hsm
      obtain ⟨Wx, hWx⟩ : ∃ W, W = wr.alloc (.cells #[.slice ai on ci, .slice bi nn di, .int .i64 sr] 91) := ⟨_, rfl⟩
      have hBx : Below wr.heap.size wr Wx := by rw [hWx]; exact below_alloc wr _
      have zx : Wx.heap.size = wr.heap.size + 1 := by rw [hWx]; simp
      have v0 : Wx.cell? ⟨wr.heap.size, 0, none⟩ = some (.slice ai on ci) := by rw [hWx]; simp [go_sem]
      have v1 : Wx.cell? ⟨wr.heap.size, 1, none⟩ = some (.slice bi nn di) := by rw [hWx]; simp [go_sem]
      have v2 : Wx.cell? ⟨wr.heap.size, 2, none⟩ = some (.int .i64 sr) := by rw [hWx]; simp [go_sem]
      clear f5 f6 f7 hon hnn han hse hprev hsm hanE hkG
      go_wp2_with fail
      rw [← hWx]
      clear hWx
      replace u0 := cell_grown hBx u0
      replace u1 := cell_grown hBx u1
      replace u2 := cell_grown hBx u2
      have hBd : Below Wx.heap.size Wx Wx.drew := (Below.refl _ _).drew
      have hNx := (hN.grown hBy).grown hBx
      have s0x := s0.grown hBx
      have s1x := s1.grown hBx
      clear s0 s1
      go_region_held3 (fun w' : World => w'.cell? ⟨wr.heap.size, 0, none⟩ = some (.slice ai on ci) ∧ w'.cell? ⟨wr.heap.size, 1, none⟩ = some (.slice bi nn di) ∧ w'.cell? ⟨wr.heap.size, 2, none⟩ = some (.int .i64 sr) ∧ w'.cell? ⟨w.heap.size + 1, 0, none⟩ = some (.slice wa wn wc) ∧ w'.cell? ⟨w.heap.size + 1, 1, none⟩ = some (.int .i64 out) ∧ w'.cell? ⟨w.heap.size + 1, 2, none⟩ = some (.int .i64 win)) (first | with_reducible exact ⟨v0, v1, v2, u0, u1, u2⟩ | with_reducible exact ⟨cell_grown hBd v0, cell_grown hBd v1, cell_grown hBd v2, cell_grown hBd u0, cell_grown hBd u1, cell_grown hBd u2⟩)
        (first
          | (go_at_call 47
             refine (olds_any R out win wn wc wa an on _ HR.out (by omega) (hNx.grown hBd) (by omega)).mono ?_
             rintro e wo ⟨oa, oc, rfl, hOs, hbo⟩
             have hG1 : Below Wx.heap.size Wx wo := hBd.trans (hbo.mono hBd.size)
             replace v0 := cell_grown hG1 v0
             replace v1 := cell_grown hG1 v1
             replace v2 := cell_grown hG1 v2
             replace u0 := cell_grown hG1 u0
             replace u1 := cell_grown hG1 u1
             replace u2 := cell_grown hG1 u2)
          | (go_at_call 46
             refine (same_any so (textsM R an on) on ci on oc ai oa wo HON.out (by omega) (s0x.grown hG1) (textsM_length HR.out (by omega)) (by omega) hOs).mono ?_
             rintro e wp ⟨he, hbp⟩
             rw [HSM.out] at he
             subst he
             have hG2 : Below Wx.heap.size Wx wp := hG1.trans (hbp.mono hG1.size)
             replace v0 := cell_grown hbp v0
             replace v1 := cell_grown hbp v1
             replace v2 := cell_grown hbp v2
             replace u0 := cell_grown hbp u0
             replace u1 := cell_grown hbp u1
             replace u2 := cell_grown hbp u2))
      have hGw : Below wr.heap.size wr wp := hBx.trans (hG2.mono hBx.size)
      have s0p := s0x.grown hG2
      have s1p := s1x.grown hG2
      have gv := lt_of_cell v0
      have hzp := hGw.size
      have hBtp : But1 Wy.heap.size Wz wp := hBt.over (hGw.mono hzr)
      have hsnp : wp.rowIs Wy.heap.size 3 rn (fun i => .int .i64 (seenS G k i)) := hsn.of_block (hGw.block _ hsn.lt)
      have hQp := (hQ.grown hBy).grown hGw
      have HBTP := hid hBtp
      have HSNP := hid hsnp
      clear hBd hbo hbp hG1 hG2 hBx hOs s0x s1x hNx hsn hBt g1 g2 g3 g4 hsnp hBtp
      by_cases hneg : sr < 0
      · have gng : decide (sr < 0) = true := by simpa using hneg
        obtain ⟨hsame, hnone⟩ := HF6.out hneg
        have hsm : decide (so = sw) = true := by rw [decide_eq_true_eq]; exact hsame
        have HSM2 := hid hsm
        have HNEG := hid hneg
        have hno : Hid (∀ i : Nat, seenS G (k + 1) i = seenS G k i) := hid (fun i => by rw [HSEN.out i, if_neg (by have := HNEG.out; omega)]; omega)
        clear hsame hsm hneg
        have hcall : ∀ W, Below wp.heap.size wp W → Calls Tryz.prog 46 #[.slice ai on ci, .slice bi nn di] W fun e w' => e = .returned (.bool true) ∧ Below W.heap.size W w' := fun W hW => by
          have h := same_any so sw on ci nn di ai bi W HON.out (by omega) (s0p.grown hW) HNN.out (by omega) (s1p.grown hW)
          rw [HSM2.out] at h
          exact h
        cases k with
        | zero =>
          go_wp2_with fail
          refine (hcall _ (Below.refl _ _)).mono ?_
          rintro e wq ⟨rfl, hbq⟩
          replace v0 := cell_grown hbq v0
          have gv2 := lt_of_cell v0
          go_wp2
          go_roundw
          case rel => exact ⟨1, by omega, rfl, by rw [HAN.out]; simp, (HSNP.out.of_block (hbq.block _ HSNP.out.lt)).congr (fun i _ => by rw [hno.out i]), HBTP.out.over (hbq.mono HBTP.out.size)⟩
          case measure => simp [intOf]; omega
        | succ j =>
          have hj1 : ((j + 1 : Nat) : Int) = (j : Int) + 1 := by omega
          have pv := cell_grown hGw (HPV.out j rfl)
          have hpn : ¬ (G.getD j default).2.2 < 0 := by
            have h := hnone
            rw [if_neg (by omega)] at h
            unfold noneB at h
            simpa using h
          generalize (G.getD j default).2.2 = pr at pv hpn
          have gp := lt_of_cell pv
          have gpr : decide (pr < 0) = false := by simpa using hpn
          have j0 : (0 : Int) ≤ (j : Int) := by omega
          have j1 : (j : Int) < (sgn : Int) := by omega
          have j2 : j < sgn := by omega
          rw [hj1]
          go_wp2_with fail
          refine (hcall _ (Below.refl _ _)).mono ?_
          rintro e wq ⟨rfl, hbq⟩
          replace v0 := cell_grown hbq v0
          replace pv := cell_grown hbq pv
          have gv2 := lt_of_cell v0
          have gp2 := lt_of_cell pv
          go_wp2
          go_roundw
          case rel => exact ⟨j + 1 + 1, by omega, by go_num, by rw [HAN.out]; go_num, (HSNP.out.of_block (hbq.block _ HSNP.out.lt)).congr (fun i _ => by rw [hno.out i]), HBTP.out.over (hbq.mono HBTP.out.size)⟩
          case measure => simp [intOf]; omega
      · have gng : decide (sr < 0) = false := by simpa using hneg
        obtain ⟨rq, hrq⟩ : ∃ rq : Nat, sr = rq := ⟨sr.toNat, by omega⟩
        subst hrq
        obtain ⟨hqf, hqc, hqp⟩ := HF7.out (by omega)
        rw [Int.toNat_natCast] at hqf hqc hqp
        have hrql : rq < rn := by omega
        have hrqi : (rq : Int) < (rn : Int) := by omega
        have r0 : (0 : Int) ≤ (rq : Int) := by omega
        obtain ⟨qb, qoff, qpa, qpc, hqa, e0, e1, e2, e3, e4, e5, e6⟩ := hQp rq (by rw [HL.out]; exact hrql)
        rw [hqf] at e2
        rw [hqc] at e3
        have hqp2 : (L.getD rq default).put = sw := hqp.symm
        rw [hqp2] at e4 e5 e6
        rw [HNN.out] at e4
        generalize (L.getD rq default).b = qbb at e0
        generalize (L.getD rq default).m = qmm at e1
        subst hqa
        have gq := lt_of_cell e0
        have cs := HSNP.out.cell (i := rq) hrql
        have fs := HSNP.out.frozen rq
        have gs := HSNP.out.lt
        have hst0 : 0 ≤ seenS G k rq ∧ seenS G k rq ≤ 1000 := by
          have h1 := times_take rq k G
          have h2 := (HSE.out rq hrql).2
          unfold seenS
          omega
        obtain ⟨sv, hsv⟩ : ∃ z, seenS G k rq = z := ⟨_, rfl⟩
        rw [hsv] at cs hst0
        have HSV := hid hsv
        have hw3 : IntKind.i64.wrap (sv + 1) = sv + 1 := by rw [IntKind.wrap_i64]; omega
        have hcall : ∀ W, Below wp.heap.size wp W → Calls Tryz.prog 46 #[.slice qpa nn qpc, .slice bi nn di] W fun e w' => e = .returned (.bool true) ∧ Below W.heap.size W w' := fun W hW => by
          have h := same_any sw sw nn qpc nn di qpa bi W HNN.out (by omega) (e6.grown hW) HNN.out (by omega) (s1p.grown hW)
          rw [decide_eq_true (rfl : sw = sw)] at h
          exact h
        have hne : wr.heap.size ≠ Wy.heap.size := by omega
        clear hqf hqc hqp hqp2 hsv hneg
        go_wp2_with fail
        refine (hcall _ (below_alloc _ _)).mono ?_
        rintro e wq ⟨rfl, hbq⟩
        have hBq := below_then (below_alloc wp _) hbq
        replace v0 := cell_grown hBq v0
        replace v2 := cell_grown hBq v2
        have cs2 := cell_grown hBq cs
        have fs2 : wq.frozen? ⟨Wy.heap.size, rq, none⟩ = false := (hBq.frozen (p := ⟨Wy.heap.size, rq, none⟩) gs).trans fs
        have gv2 := lt_of_cell v0
        have gs2 := lt_of_cell cs2
        have hrow2 := (HSNP.out.of_block (hBq.block _ gs)).set rq (.int .i64 (sv + 1))
        have hrow3 := hrow2.congr (g := fun i => .int .i64 (seenS G (k + 1) i)) (fun i _ => by
          have h := HSEN.out i
          by_cases e : i = rq
          · subst e
            rw [if_pos rfl] at h
            rw [if_pos rfl, h, HSV.out]
          · rw [if_neg (by omega)] at h
            rw [if_neg e, h]
            simp)
        have HROW := hid hrow3
        have hbt2 := (HBTP.out.over (hBq.mono HBTP.out.size)).set rq (.int .i64 (sv + 1))
        have HBT2 := hid hbt2
        clear hrow2 hrow3 hbt2 hbq cs fs u0 u1 u2 v1 e0 e1 e2 e3 e4
        go_wp2
        go_roundw
        case rel => exact ⟨k + 1, by omega, by go_num, by rw [HAN.out]; go_num, HROW.out, HBT2.out⟩
        case measure => simp [intOf]; omega
    · have hkn : k = sgn := by omega
      subst hkn
      have HBT := hid hBt
      have HROW := hid hsn
      clear hsn hBt hSG
      obtain ⟨Wq, hWq⟩ : ∃ W, W = wr := ⟨_, rfl⟩
      rw [← hWq] at u0 u1 u2 hzr hBy HBT HROW ⊢
      clear hWq
      have hrowD := hrow.of_block (hBy.block _ hrow.lt)
      have hat : atS G k = wn := by have h1 := HFE.out; have h2 := HSL.out; rw [Nat.zero_add, h2, HR.out] at h1; exact h1
      rw [hat]
      have hsq := hstd.grown hBy
      have HBQ := hid (below_then HB.out hBy)
      have hse : ∀ i, i < rn → (seenS G k i = 1 ↔ D i = 0) ∧ 0 ≤ seenS G k i ∧ seenS G k i ≤ 1 := fun i hi => by
        have h := HSE.out i hi
        have e : G.take k = G := List.take_of_length_le (by rw [HSL.out]; exact Nat.le_refl _)
        unfold seenS
        rw [e, ← h.1]
        omega
      have HSE2 := hid hse
      clear hse hat hrow hBy hQ hN
      go_wp2_with fail
      go_loopw [18] (fun i wr => ∃ j : Nat, j ≤ rn ∧ i = .int .i64 j ∧ Below Wq.heap.size Wq wr) (fun i _ => rn - (intOf i).toNat)
      case atStart => exact ⟨0, Nat.zero_le _, rfl, Below.refl _ _⟩
      case round =>
        obtain ⟨j, hj, rfl, hBr⟩ := hrel
        by_cases hlt2 : j < rn
        · have hlt2' : (j : Int) < (rn : Int) := by omega
          have j0 : (0 : Int) ≤ (j : Int) := by omega
          have d0 := cell_grown hBr (HROW.out.cell (i := j) hlt2)
          have d1 := cell_grown hBr (hrowD.cell (i := j) hlt2)
          obtain ⟨h1, h2, h3⟩ := HSE2.out j hlt2
          have gd0 := lt_of_cell d0
          have gd1 := lt_of_cell d1
          obtain ⟨sv, hsv⟩ : ∃ z, seenS G k j = z := ⟨_, rfl⟩
          obtain ⟨dv, hdv⟩ : ∃ z, D j = z := ⟨_, rfl⟩
          rw [hsv] at d0 h1 h2 h3
          rw [hdv] at d1 h1
          by_cases e : dv = 0
          · have e2 := h1.2 e
            subst e2
            subst e
            clear h1 h2 h3 hsv hdv
            go_wp2_with fail
            go_quiet (fail)
            go_wp2
            go_roundw
            case rel => exact ⟨j + 1, by omega, by go_num, below_drewN hBr _⟩
            case measure => simp [intOf]; omega
          · have e2 : sv = 0 := by
              have : ¬ sv = 1 := fun h => e (h1.1 h)
              omega
            subst e2
            have b2 : (dv == 0) = false := by simpa using e
            clear h1 h2 h3 hsv hdv e
            go_wp2_with fail
            go_quiet (fail)
            go_wp2
            go_roundw
            case rel => exact ⟨j + 1, by omega, by go_num, below_drewN hBr _⟩
            case measure => simp [intOf]; omega
        · have hjn : j = rn := by omega
          subst hjn
          have q0 := cell_grown hBr u0
          have gq0 := lt_of_cell q0
          have geq : ((wn : Int) == (wn : Int)) = true := by simp
          go_wp2_with fail
          refine (awake_any _ (hsq.grown hBr)).mono ?_
          rintro e wz ⟨rfl, hb⟩
          go_wp2
          go_ret
          exact ⟨rfl, below_then (below_then HBQ.out hBr) hb⟩

end Go.Proofs.YtbampfkmgjfofaaGreatDoor
