/- Mend: the law MendOwn, walked. -/
import Derived.Test.YtbampfkmgjfofaaGreatDoorCE
import Derived.Test.YtbampfkmgjfofaaGreatDoorCF
import Derived.Test.YtbampfkmgjfofaaGreatDoorCH
import Derived.Test.YtbampfkmgjfofaaGreatDoorCI
import Derived.Test.YtbampfkmgjfofaaGreatDoorRC
import Derived.Deep.RegionHeld3
import Derived.IntWalk
import Derived.Deep.QuietTactic
import Derived.BigQuiet
namespace Go.Proofs.YtbampfkmgjfofaaGreatDoor
open Go.RowKit

theorem ready_ok {l : Lex} {S : List (Int × Int × Int)} {R : List (Tx × Int)} {out win : Int} {L : List Req} (h : readyM l S R out win L = true) : ThinOk l ∧ S.length ≤ 25 ∧ FewOk R L ∧ hearErr l S R out win L = 0 := by
  unfold readyM at h
  rw [Bool.and_eq_true, Bool.and_eq_true, decide_eq_true_eq] at h
  exact ⟨(thin_ok h.1).1, (thin_ok h.1).2, few_ok h.2.1, h.2.2⟩

theorem report_of_heard {l : Lex} {S : List (Int × Int × Int)} {R : List (Tx × Int)} {out win : Int} {L : List Req} (h : hearErr l S R out win L = 0) : (0 ≤ out ∧ out ≤ 100000) ∧ (0 ≤ win ∧ win ≤ 100000) ∧ R.length ≤ 80 := by
  unfold hearErr at h
  split at h
  · split at h
    · rename_i h2
      unfold reportErr at h2
      split at h2
      · rename_i h3
        unfold reportOk at h3
        simp only [Bool.and_eq_true, decide_eq_true_eq, inB] at h3
        exact ⟨h3.2.2.1, h3.2.2.2, h3.1⟩
      · cases h2
    · exact absurd h ‹_›
  · exact absurd h ‹_›

theorem own_of_taken {w : World} {l : Lex} {S : List (Int × Int × Int)} {R : List (Tx × Int)} {out win : Int} {L : List Req} {T : List Ask} (hT : TakenOk w L T) {k : Nat} (hk : k < L.length) (h : (runA (aloneM (entries l) S R out win L) T).1 k = 0) : OwnOk R out win (L.getD k default) := by
  obtain ⟨-, h2, h3, -⟩ := hT
  have hm : k ∈ T.map (·.i) := h3.mem_iff.2 (List.mem_range.2 hk)
  obtain ⟨x, hx, rfl⟩ := List.mem_map.1 hm
  have hr := (h2 x hx).2
  exact alone_own (fold_zero T _ h x hx rfl) hr.1 hr.2.1 hr.2.2.1 hr.2.2.2.1

theorem int64_eq {a b : Int} (h : a = b) : Value.int .i64 a = Value.int .i64 b := by rw [h]

/-- Was a word found that is the member's own? -/
def BesM (R : List (Tx × Int)) (b f : Int) (bv : Bool) (j : Nat) : Prop := bv = true ∨ ∀ t : Int, f - 1 ≤ t → t < f - 1 + j → ownZ R b t = false

theorem BesM.hit {R : List (Tx × Int)} {b f : Int} {j : Nat} : BesM R b f true j := .inl rfl
theorem BesM.next {R : List (Tx × Int)} {b f k : Int} {bv : Bool} {j : Nat} (h : BesM R b f bv j) (hk : f - 1 + (j : Int) = k) (ho : ownZ R b k = false) : BesM R b f bv (j + 1) := by
  refine h.imp id fun h t h1 h2 => ?_
  by_cases e : t = k
  · rw [e]; exact ho
  · exact h t h1 (by omega)
theorem BesM.full {R : List (Tx × Int)} {out win : Int} {q : Req} {bv : Bool} {j : Nat} (h : BesM R q.b q.f bv j) (ho : OwnOk R out win q) (hj : q.f + q.c < q.f - 1 + (j : Int)) : bv = true := by
  rcases h with h | h
  · exact h
  · obtain ⟨t, h1, h2, h3⟩ := ho.beside
    rw [h t h1 (by omega)] at h3
    cases h3

set_option maxRecDepth 100000 in
set_option maxHeartbeats 8000000 in
theorem mendOwn_any (l : Lex) (a1 a2 a3 : Option Addr) (n1 n2 n3 c1 c2 c3 : Nat) (S : List (Int × Int × Int)) (sa : Option Addr) (sn sc : Nat) (R : List (Tx × Int)) (out win : Int) (wa : Option Addr) (wn wc : Nat) (L : List Req) (ra : Option Addr) (rn rc : Nat) (w : World)
    (h1 : l.nums.length = n1) (h2 : l.names.length = n2) (h3 : l.nots.length = n3) (hLx : LexAt w a1 a2 a3 l) (hs : S.length = sn) (hSw : SwapsAt w sa S) (hR : R.length = wn) (hwn : wn ≤ maxLen) (hN : Nums w wa R) (hL : L.length = rn) (hrn : rn ≤ maxLen) (hQ : ReqsAt w ra L) (hqI : ∀ q ∈ L, ReqI q) (hstd : Std w) :
    Calls Tryz.prog 12 #[.agg #[.slice a1 n1 c1, .slice a2 n2 c2, .slice a3 n3 c3], .slice sa sn sc, .agg #[.slice wa wn wc, .int .i64 out, .int .i64 win], .slice ra rn rc] w fun e w' => e = .returned (.bool true) ∧ Below w.heap.size w w' := by
  have H1 := hid h1; have H2 := hid h2; have H3 := hid h3; have HS := hid hs; have HR := hid hR; have HL := hid hL; have HWN := hid hwn; have HRN := hid hrn; have HQI := hid hqI
  clear h1 h2 h3 hs hR hL hwn hrn hqI
  obtain ⟨W0, hW0⟩ : ∃ W, W = (w.alloc (.cells #[.slice a1 n1 c1, .slice a2 n2 c2, .slice a3 n3 c3] 26)).alloc (.cells #[.slice wa wn wc, .int .i64 out, .int .i64 win] 56) := ⟨_, rfl⟩
  have hB0 : Below w.heap.size w W0 := by rw [hW0]; exact ((Below.refl _ w).alloc (Nat.le_refl _) _).alloc (by simp) _
  have x0 : W0.cell? ⟨w.heap.size, 0, none⟩ = some (.slice a1 n1 c1) := by rw [hW0]; simp [go_sem]
  have x1 : W0.cell? ⟨w.heap.size, 1, none⟩ = some (.slice a2 n2 c2) := by rw [hW0]; simp [go_sem]
  have x2 : W0.cell? ⟨w.heap.size, 2, none⟩ = some (.slice a3 n3 c3) := by rw [hW0]; simp [go_sem]
  have y0 : W0.cell? ⟨w.heap.size + 1, 0, none⟩ = some (.slice wa wn wc) := by rw [hW0]; simp [go_sem]
  have y1 : W0.cell? ⟨w.heap.size + 1, 1, none⟩ = some (.int .i64 out) := by rw [hW0]; simp [go_sem]
  have y2 : W0.cell? ⟨w.heap.size + 1, 2, none⟩ = some (.int .i64 win) := by rw [hW0]; simp [go_sem]
  replace hLx := hLx.grown hB0
  replace hSw := hSw.grown hB0
  replace hN := hN.grown hB0
  replace hQ := hQ.grown hB0
  replace hstd := hstd.grown hB0
  have HB := hid hB0
  clear hB0
  go_enter Tryz.func12, Tryz.ntmps12
  go_wp2_with fail
  rw [← hW0]
  clear hW0
  refine (ready_any l a1 a2 a3 n1 n2 n3 c1 c2 c3 S sa sn sc R out win wa wn wc L ra rn rc W0 H1.out H2.out H3.out hLx HS.out hSw HR.out HWN.out hN HL.out HRN.out hQ).mono ?_
  rintro e w1 ⟨rfl, hb⟩
  replace HB := hid (below_then HB.out hb)
  replace x0 := cell_grown hb x0
  replace x1 := cell_grown hb x1
  replace x2 := cell_grown hb x2
  replace y0 := cell_grown hb y0
  replace y1 := cell_grown hb y1
  replace y2 := cell_grown hb y2
  replace hLx := hLx.grown hb
  replace hSw := hSw.grown hb
  replace hN := hN.grown hb
  replace hQ := hQ.grown hb
  replace hstd := hstd.grown hb
  clear hb
  cases ht : readyM l S R out win L
  · clear ht
    go_wp2_with fail
    refine (awake_any w1 hstd).mono ?_
    rintro e wz ⟨rfl, hb⟩
    go_wp2
    go_ret
    exact ⟨rfl, below_then HB.out hb⟩
  obtain ⟨hT, hs25, hF, hE0⟩ := ready_ok ht
  have HT := hid hT
  have HF := hid hF
  have HE0 := hid hE0
  rw [HS.out] at hs25
  clear ht hT hF hE0
  obtain ⟨q1, q2, q3⟩ := thin_sizes HT.out H1.out H2.out H3.out
  have qw : wn ≤ 85 := by have := HF.out.n; rw [HR.out] at this; exact this
  have qr : rn ≤ 25 := by have := HF.out.m; rw [HL.out] at this; exact this
  have hBd : Below w1.heap.size w1 w1.drew := (Below.refl _ _).drew
  go_wp2_with fail
  go_region_held3 (fun w' : World => w'.cell? ⟨w.heap.size, 0, none⟩ = some (.slice a1 n1 c1) ∧ w'.cell? ⟨w.heap.size, 1, none⟩ = some (.slice a2 n2 c2) ∧ w'.cell? ⟨w.heap.size, 2, none⟩ = some (.slice a3 n3 c3) ∧ w'.cell? ⟨w.heap.size + 1, 0, none⟩ = some (.slice wa wn wc) ∧ w'.cell? ⟨w.heap.size + 1, 1, none⟩ = some (.int .i64 out) ∧ w'.cell? ⟨w.heap.size + 1, 2, none⟩ = some (.int .i64 win)) (exact ⟨x0, x1, x2, y0, y1, y2⟩) (first | (go_at_call 19; replace HB := hid (below_then HB.out hBd); replace x0 := cell_grown hBd x0; replace x1 := cell_grown hBd x1; replace x2 := cell_grown hBd x2; replace y0 := cell_grown hBd y0; replace y1 := cell_grown hBd y1; replace y2 := cell_grown hBd y2; replace hLx := hLx.grown hBd; replace hSw := hSw.grown hBd; replace hN := hN.grown hBd; replace hQ := hQ.grown hBd; replace hstd := hstd.grown hBd; refine (lexicon_any l a1 a2 a3 n1 n2 n3 c1 c2 c3 _ H1.out H2.out H3.out q1 q2 q3 (fun N hN => by have := HT.out.m2 N hN; omega) hLx).mono ?_; rintro e wl1 ⟨b1, b2, b3, d1, d2, d3, rfl, hl3, hb1⟩; replace HB := hid (below_then HB.out hb1); replace x0 := cell_grown hb1 x0; replace x1 := cell_grown hb1 x1; replace x2 := cell_grown hb1 x2; replace y0 := cell_grown hb1 y0; replace y1 := cell_grown hb1 y1; replace y2 := cell_grown hb1 y2; replace hLx := hLx.grown hb1; replace hSw := hSw.grown hb1; replace hN := hN.grown hb1; replace hQ := hQ.grown hb1; replace hstd := hstd.grown hb1) | (go_at_call 27; refine (swaps_any S sn sc sa _ HS.out (by omega) hSw).mono ?_; rintro e wl2 ⟨ta, tc, rfl, hT5, hb2⟩; replace HB := hid (below_then HB.out hb2); replace x0 := cell_grown hb2 x0; replace x1 := cell_grown hb2 x1; replace x2 := cell_grown hb2 x2; replace y0 := cell_grown hb2 y0; replace y1 := cell_grown hb2 y1; replace y2 := cell_grown hb2 y2; replace hLx := hLx.grown hb2; replace hSw := hSw.grown hb2; replace hN := hN.grown hb2; replace hQ := hQ.grown hb2; replace hstd := hstd.grown hb2; replace hl3 := hl3.grown hb2) | (go_at_call 32; refine (report_any R out win wn wc wa _ HR.out (by omega) hN).mono ?_; rintro e wl3 ⟨pa, pc, rfl, hpc, hN6, hb3⟩; replace HB := hid (below_then HB.out hb3); replace x0 := cell_grown hb3 x0; replace x1 := cell_grown hb3 x1; replace x2 := cell_grown hb3 x2; replace y0 := cell_grown hb3 y0; replace y1 := cell_grown hb3 y1; replace y2 := cell_grown hb3 y2; replace hLx := hLx.grown hb3; replace hSw := hSw.grown hb3; replace hN := hN.grown hb3; replace hQ := hQ.grown hb3; replace hstd := hstd.grown hb3; replace hl3 := hl3.grown hb3; replace hT5 := hT5.grown hb3) | (go_at_call 34; refine (requests_any L rn rc ra _ HL.out (by omega) hQ HF.out.p).mono ?_; rintro e wl4 ⟨ka, kc, rfl, hQ7, hb4⟩; replace HB := hid (below_then HB.out hb4); replace x0 := cell_grown hb4 x0; replace x1 := cell_grown hb4 x1; replace x2 := cell_grown hb4 x2; replace y0 := cell_grown hb4 y0; replace y1 := cell_grown hb4 y1; replace y2 := cell_grown hb4 y2; replace hLx := hLx.grown hb4; replace hSw := hSw.grown hb4; replace hN := hN.grown hb4; replace hQ := hQ.grown hb4; replace hstd := hstd.grown hb4; replace hl3 := hl3.grown hb4; replace hT5 := hT5.grown hb4; replace hN6 := hN6.grown hb4) | (go_at_call 33; refine (decideF_any l b1 b2 b3 n1 n2 n3 d1 d2 d3 S ta sn tc R pa wn pc out win L ka rn kc _ H1.out H2.out H3.out hl3 HS.out (by unfold maxLen; omega) hT5 HR.out HWN.out hpc hN6 HL.out hQ7 (fun q hq => (HQI.out q hq).2.2.2) hstd).mono ?_; rintro e wl5 ⟨Wd, hbW, hbd, he⟩; rw [if_pos HE0.out] at he; obtain ⟨ab, T, rfl, hTk, hrow⟩ := he; have hb5 := hbW.trans (hbd.mono hbW.size); replace HB := hid (below_then HB.out hb5); replace x0 := cell_grown hb5 x0; replace x1 := cell_grown hb5 x1; replace x2 := cell_grown hb5 x2; replace y0 := cell_grown hb5 y0; replace y1 := cell_grown hb5 y1; replace y2 := cell_grown hb5 y2; replace hLx := hLx.grown hb5; replace hSw := hSw.grown hb5; replace hN := hN.grown hb5; replace hQ := hQ.grown hb5; replace hstd := hstd.grown hb5))
  clear hb1 hb2 hb3 hb4 hb5 hbW hbd hl3 hT5 hN6 hQ7 hBd x0 x1 x2 hLx hSw
  have hown : ∀ k, k < rn → (runA (aloneM (entries l) S R out win L) T).1 k = 0 → OwnOk R out win (L.getD k default) := fun k hk h => own_of_taken hTk (by rw [HL.out]; exact hk) h
  have HOWN := hid hown
  obtain ⟨⟨o1, o2⟩, ⟨o3, o4⟩, hw80⟩ := report_of_heard HE0.out
  rw [HR.out] at hw80
  clear hown
  generalize hDF : (runA (aloneM (entries l) S R out win L) T).1 = D at hrow HOWN
  clear hDF hTk
  go_wp2_with fail
  obtain ⟨Wx, hWx⟩ : ∃ W, W = wl5 := ⟨_, rfl⟩
  rw [← hWx] at y0 y1 y2 hN hQ hstd hrow HB ⊢
  clear hWx
  have zx : w.heap.size + 1 < Wx.heap.size := lt_of_cell y0
  go_loopw [11] (fun i wr => ∃ k : Nat, k ≤ rn ∧ i = .int .i64 k ∧ Below Wx.heap.size Wx wr) (fun i _ => rn - (intOf i).toNat)
  case atStart => exact ⟨0, Nat.zero_le _, rfl, Below.refl _ _⟩
  case round =>
    obtain ⟨k, hk, rfl, hBr⟩ := hrel
    have hzr := hBr.size
    by_cases hlt : k < rn
    · have hlt' : (k : Int) < (rn : Int) := by omega
      obtain ⟨b, off, pp, pc2, rfl, e0, e1, e2, e3, e4, e5, -⟩ := (hQ.grown hBr) k (by rw [HL.out]; exact hlt)
      have hok := HOWN.out k hlt
      obtain ⟨q, hq⟩ : ∃ q, L.getD k default = q := ⟨_, rfl⟩
      rw [hq] at e0 e1 e2 e3 e4 hok
      have gb := lt_of_cell e0
      have d0 := cell_grown hBr (hrow.cell (i := k) hlt)
      have gd := lt_of_cell d0
      have u0 := cell_grown hBr y0
      have u1 := cell_grown hBr y1
      have u2 := cell_grown hBr y2
      have ul := lt_of_cell u0
      obtain ⟨dk, hdk⟩ : ∃ z, D k = z := ⟨_, rfl⟩
      rw [hdk] at d0 hok
      have hpl : q.put.length ≤ 1000 := HF.out.p q (by rw [← hq, List.getD_eq_getElem?_getD, List.getElem?_eq_getElem (by rw [HL.out]; exact hlt), Option.getD_some]; exact List.getElem_mem _)
      clear hq hdk e5
      obtain ⟨qb, qm, qf, qc, qp⟩ := q
      simp only at e0 e1 e2 e3 e4 hpl
      obtain ⟨pl, hpl2⟩ : ∃ n, qp.length = n := ⟨_, rfl⟩
      rw [hpl2] at e4
      clear hpl2 hpl
      by_cases hz : dk = 0
      · have HOK := hid (hok hz)
        subst hz
        have f0 : 0 ≤ qf := HOK.out.f0
        have c0 : 0 ≤ qc := HOK.out.c0
        have c8 : qc ≤ 8 := HOK.out.c8
        have fc : qf + qc ≤ (wn : Int) := by have := HOK.out.fc; rw [HR.out] at this; exact this
        have lo : out ≤ qm := HOK.out.lo
        have hi : qm ≤ out + win := HOK.out.hi
        clear hok
        have t1 : ¬ qf < 0 := by omega
        have t2 : ¬ qc < 0 := by omega
        have t3 : ¬ 8 < qc := by omega
        have t4 : ¬ (wn : Int) < qf + qc := by omega
        have t5 : ¬ qm < out := by omega
        have t6 : ¬ win < qm - out := by omega
        go_wp2_with fail
        obtain ⟨W1, hW1⟩ : ∃ W, W = wr.alloc (.cells #[.int .i64 qb, .int .i64 qm, .int .i64 qf, .int .i64 qc, .slice pp pl pc2] 99) := ⟨_, rfl⟩
        have hBa : Below wr.heap.size wr W1 := by rw [hW1]; exact below_alloc wr _
        have v0 : W1.cell? ⟨wr.heap.size, 0, none⟩ = some (.int .i64 qb) := by rw [hW1]; simp [go_sem]
        have v1 : W1.cell? ⟨wr.heap.size, 1, none⟩ = some (.int .i64 qm) := by rw [hW1]; simp [go_sem]
        have v2 : W1.cell? ⟨wr.heap.size, 2, none⟩ = some (.int .i64 qf) := by rw [hW1]; simp [go_sem]
        have v3 : W1.cell? ⟨wr.heap.size, 3, none⟩ = some (.int .i64 qc) := by rw [hW1]; simp [go_sem]
        obtain ⟨kb, hkb⟩ : ∃ b, wr.heap.size = b := ⟨_, rfl⟩
        rw [← hW1]
        rw [hkb] at v0 v1 v2 v3 ⊢
        have vl := lt_of_cell v0
        have hB1 := hBr.trans (hBa.mono hzr)
        replace u0 := cell_grown hBa u0
        replace u1 := cell_grown hBa u1
        replace u2 := cell_grown hBa u2
        clear hW1 hBa hkb e0 e1 e2 e3 e4 gb gd ul d0 t1 t2 t3 t4 t5 t6
        have zk : w.heap.size + 1 < W1.heap.size := lt_of_cell u0
        have nw : (wn : Int) ≤ 85 := by omega
        have HN1 := hid (hN.grown hB1)
        clear hstd hrow HQI HE0 HT HF q1 q2 q3 hs25 hpc H1 H2 H3 HS HWN HRN lo hi o1 o2 o3 o4 hw80 zx y0 y1 y2 hN u1 u2 hBr hzr HB HOWN
        go_loopw [13, 14] (fun bs kk wi => ∃ (j : Nat) (bv : Bool), (j : Int) ≤ qc + 2 ∧ kk = .int .i64 (qf - 1 + j) ∧ bs = .bool bv ∧ BesM R qb qf bv j ∧ Below W1.heap.size W1 wi) (fun _ kk _ => (qf + qc + 1 - intOf kk).toNat)
        case atStart => exact ⟨0, false, by omega, by simp, rfl, .inr fun t h1 h2 => by omega, Below.refl _ _⟩
        case round =>
          obtain ⟨j, bv, hj, rfl, rfl, HBV, hb⟩ := hrel
          obtain ⟨kk, hkk⟩ : ∃ z, qf - 1 + (j : Int) = z := ⟨_, rfl⟩
          rw [hkk]
          have HKK := hid hkk
          have k1 : qf - 1 ≤ kk := by omega
          have k2 : kk ≤ qf + qc + 1 := by omega
          clear hkk
          have s0 := cell_grown hb u0
          have m0 := cell_grown hb v0
          have m1 := cell_grown hb v1
          have m2 := cell_grown hb v2
          have m3 := cell_grown hb v3
          have sl := lt_of_cell s0
          have ml := lt_of_cell m0
          by_cases hle : kk ≤ qf + qc
          · have hw1 : IntKind.i64.wrap ((wn : Int) - 1) = (wn : Int) - 1 := IntWalk.i64_in _ (by omega)
            cases hin : inB kk 0 ((wn : Int) - 1)
            · have HOZ : Hid (ownZ R qb kk = false) := hid (by rw [ownZ, HR.out, hin]; rfl)
              have hcall : ∀ W, Calls Tryz.prog 49 #[.int .i64 kk, .int .i64 0, .int .i64 ((wn : Int) - 1)] W fun e w' => e = .returned (.bool false) ∧ w' = W := fun W => (rin_any _ _ _ _).mono fun e w' h => ⟨by rw [h.1, hin], h.2.symm⟩
              clear hin
              go_wp2_with fail
              go_quiet ((go_at_call 49; exact Calls.quiet_of_same (hcall _)))
              clear hw1 hcall
              have hin2 : inB kk qf (qf + qc - 1) = false := by
                cases h : inB kk qf (qf + qc - 1)
                · rfl
                · have h2 : qf ≤ kk ∧ kk ≤ qf + qc - 1 := by simpa [inB] using h
                  have h3 := HOK.out.own kk h2.1 (by show kk < qf + qc; omega)
                  rw [HOZ.out] at h3
                  cases h3
              cases bv
              all_goals
                go_wp2_with (go_at_call 49; refine (rin_any _ _ _ _).mono ?_; rintro e w'' ⟨rfl, rfl⟩; rw [hin2])
                go_roundw
                case rel => exact ⟨j + 1, _, by have := HKK.out; omega, int64_eq (by have := HKK.out; omega), rfl, HBV.next HKK.out HOZ.out, below_drewN hb _⟩
                case measure => simp [intOf]; omega
            · have hk : 0 ≤ kk ∧ kk ≤ (wn : Int) - 1 := by simpa [inB] using hin
              obtain ⟨t, ht⟩ : ∃ t : Nat, kk = t := ⟨kk.toNat, by omega⟩
              subst ht
              have htn : t < wn := by omega
              have htn' : (t : Int) < (wn : Int) := by omega
              have ht0 : (0 : Int) ≤ (t : Int) := by omega
              obtain ⟨bb, off2, hwa, g0, g1⟩ := (HN1.out.grown hb) t (by rw [HR.out]; exact htn)
              have hoz : ownZ R qb t = decide ((R.getD t (.empty, 0)).2 = qb) := by rw [ownZ, HR.out, hin, Int.toNat_natCast]; rfl
              generalize R.getD t (.empty, 0) = x at g0 g1 hoz
              obtain ⟨z1, z2⟩ := x
              simp only at g0 g1 hoz
              subst hwa
              have gb2 := lt_of_cell g1
              have hcall : ∀ W, Calls Tryz.prog 49 #[.int .i64 (t : Int), .int .i64 0, .int .i64 ((wn : Int) - 1)] W fun e w' => e = .returned (.bool true) ∧ w' = W := fun W => (rin_any _ _ _ _).mono fun e w' h => ⟨by rw [h.1, hin], h.2.symm⟩
              clear hin hk
              by_cases hzq : z2 = qb
              · have hbq : (z2 == qb) = true := by simpa using hzq
                clear hzq hoz
                go_wp2_with fail
                go_quiet ((go_at_call 49; exact Calls.quiet_of_same (hcall _)))
                clear hw1 hcall ht0
                cases hin2 : inB (t : Int) qf (qf + qc - 1) <;> cases bv
                all_goals
                  go_wp2_with (go_at_call 49; refine (rin_any _ _ _ _).mono ?_; rintro e w'' ⟨rfl, rfl⟩; rw [hin2])
                  go_roundw
                  case rel => exact ⟨j + 1, true, by have := HKK.out; omega, int64_eq (by have := HKK.out; omega), rfl, BesM.hit, below_drewN hb _⟩
                  case measure => simp [intOf]; omega
              · have hbq : (z2 == qb) = false := by simpa using hzq
                have HOZ : Hid (ownZ R qb t = false) := hid (by rw [hoz]; simpa using hzq)
                clear hzq hoz
                go_wp2_with fail
                go_quiet ((go_at_call 49; exact Calls.quiet_of_same (hcall _)))
                clear hw1 hcall ht0
                have hin2 : inB (t : Int) qf (qf + qc - 1) = false := by
                  cases h : inB (t : Int) qf (qf + qc - 1)
                  · rfl
                  · have h2 : qf ≤ (t : Int) ∧ (t : Int) ≤ qf + qc - 1 := by simpa [inB] using h
                    have h3 := HOK.out.own (t : Int) h2.1 (by show (t : Int) < qf + qc; omega)
                    rw [HOZ.out] at h3
                    cases h3
                cases bv
                all_goals
                  go_wp2_with (go_at_call 49; refine (rin_any _ _ _ _).mono ?_; rintro e w'' ⟨rfl, rfl⟩; rw [hin2])
                  go_roundw
                  case rel => exact ⟨j + 1, _, by have := HKK.out; omega, int64_eq (by have := HKK.out; omega), rfl, HBV.next HKK.out HOZ.out, below_drewN hb _⟩
                  case measure => simp [intOf]; omega
          · have hbt : bv = true := BesM.full (q := ⟨qb, qm, qf, qc, qp⟩) HBV HOK.out (by show qf + qc < qf - 1 + (j : Int); have := HKK.out; omega)
            subst hbt
            have hle' : ¬ kk ≤ qf + qc := hle
            go_wp2
            go_roundw
            case rel => exact ⟨k + 1, by omega, by go_num, hB1.trans (hb.mono (by have := hB1.size; omega))⟩
            case measure => simp [intOf]; omega
      · have g0 : (dk != 0) = true := by simpa using hz
        clear hok hz
        go_wp2
        go_roundw
        case rel => exact ⟨k + 1, by omega, by go_num, hBr.alloc hzr _⟩
        case measure => simp [intOf]; omega
    · have hkn : k = rn := by omega
      subst hkn
      go_wp2_with fail
      refine (awake_any wr (hstd.grown hBr)).mono ?_
      rintro e wz ⟨rfl, hb⟩
      go_wp2
      go_ret
      exact ⟨rfl, below_then (below_then HB.out hBr) hb⟩

end Go.Proofs.YtbampfkmgjfofaaGreatDoor
