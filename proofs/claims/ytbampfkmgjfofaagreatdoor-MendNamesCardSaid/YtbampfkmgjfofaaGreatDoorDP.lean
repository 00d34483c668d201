/- Mend: the law MendVersions, walked. -/
import Derived.Test.YtbampfkmgjfofaaGreatDoorCS
import Derived.Test.YtbampfkmgjfofaaGreatDoorDG
import Derived.Test.YtbampfkmgjfofaaGreatDoorDK
import Derived.Test.YtbampfkmgjfofaaGreatDoorDM
import Derived.Deep.RegionHeld3
import Derived.IntWalk
import Derived.Deep.QuietTactic
import Derived.BigQuiet
namespace Go.Proofs.YtbampfkmgjfofaaGreatDoor
open Go.RowKit

theorem flow_key {n : Int} : ∀ {A B : List Ask} {a : Int}, A.map key3 = B.map key3 → Flow n a A → Flow n a B
  | [], [], _, _, h => h
  | [], _ :: _, _, e, _ => by simp at e
  | _ :: _, [], _, e, _ => by simp at e
  | x :: A, y :: B, a, e, h => by
    rw [List.map_cons, List.map_cons, List.cons.injEq] at e
    obtain ⟨e1, e2⟩ := e
    simp only [key3, Prod.mk.injEq] at e1
    obtain ⟨h1, h2, h3⟩ := h
    refine ⟨by omega, by omega, ?_⟩
    have := flow_key e2 h3
    rw [← e1.1, ← e1.2.1]
    exact this

theorem place_flow {l : Lex} {S : List (Int × Int × Int)} {R : List (Tx × Int)} {out win : Int} {L : List Req} {Q : List Ask} (h : PlaceOk l S R out win L Q) : Flow R.length 0 ((enumA L (decideM l S R out win L) L.length (R.length + 1)).map (askI L)) := by
  refine flow_key ?_ h.flow
  rw [place_enum h, List.map_map]
  rfl

set_option maxRecDepth 100000 in
set_option maxHeartbeats 4000000 in
theorem segsSame_any (X : List Seg) (n ac bc : Nat) (a b : Option Addr) (w : World) (hX : X.length = n) (hn : n ≤ 50000) (hT : ∀ g ∈ X, g.1.length ≤ 1000 ∧ g.2.1.length ≤ 1000) (hA : SegsAt w a X) (hB : SegsAt w b X) :
    Calls Tryz.prog 39 #[.slice a n ac, .slice b n bc] w fun e w' => e = .returned (.bool true) ∧ Below w.heap.size w w' := by
  have HX := hid hX
  have HTX := hid hT
  clear hX hT
  go_enter Tryz.func39, Tryz.ntmps39
  go_wp2_with fail
  go_loopw [5] (fun i wr => ∃ k : Nat, k ≤ n ∧ i = .int .i64 k ∧ Below w.heap.size w wr) (fun i _ => n - (intOf i).toNat)
  case atStart => exact ⟨0, Nat.zero_le _, rfl, Below.refl _ _⟩
  case round =>
    obtain ⟨k, hk, rfl, hBr⟩ := hrel
    by_cases hlt : k < n
    · have hlt' : (k : Int) < (n : Int) := by omega
      have k0 : (0 : Int) ≤ (k : Int) := by omega
      have hkx : k < X.length := by rw [HX.out]; exact hlt
      obtain ⟨gb, goff, ai, ci, bi, di, e, c0, c1, c2, s0, s1⟩ := (hA.grown hBr) k hkx
      subst e
      obtain ⟨fb, foff, pi, qi, ri, ti, e, d0, d1, d2, t0, t1⟩ := (hB.grown hBr) k hkx
      subst e
      have hmem := HTX.out (X.getD k default) (by rw [List.getD_eq_getElem?_getD, List.getElem?_eq_getElem hkx, Option.getD_some]; exact List.getElem_mem _)
      generalize X.getD k default = s at c0 c1 c2 d0 d1 d2 s0 s1 t0 t1 hmem
      obtain ⟨so, sw, sr⟩ := s
      simp only at c0 c1 c2 d0 d1 d2 s0 s1 t0 t1 hmem
      obtain ⟨on, hon⟩ : ∃ n, so.length = n := ⟨_, rfl⟩
      obtain ⟨nn, hnn⟩ : ∃ n, sw.length = n := ⟨_, rfl⟩
      rw [hon] at c0 d0 hmem
      rw [hnn] at c1 d1 hmem
      obtain ⟨m1, m2⟩ := hmem
      have HON := hid hon
      have HNN := hid hnn
      clear hon hnn hkx
      have hBd : Below wr.heap.size wr wr.drew := (Below.refl _ _).drew
      have ZO := hid (And.intro c0 (And.intro c1 (And.intro c2 (And.intro d0 (And.intro d1 d2)))))
      have g0 := lt_of_cell c0
      have g1 := lt_of_cell d0
      go_wp2_with fail
      go_region_held3 (fun w' : World => w'.cell? ⟨gb, goff + k * 3, none⟩ = some (.slice ai on ci) ∧ w'.cell? ⟨gb, goff + k * 3 + 1, none⟩ = some (.slice bi nn di) ∧ w'.cell? ⟨gb, goff + k * 3 + 2, none⟩ = some (.int .i64 sr) ∧ w'.cell? ⟨fb, foff + k * 3, none⟩ = some (.slice pi on qi) ∧ w'.cell? ⟨fb, foff + k * 3 + 1, none⟩ = some (.slice ri nn ti) ∧ w'.cell? ⟨fb, foff + k * 3 + 2, none⟩ = some (.int .i64 sr)) (first | with_reducible exact ⟨c0, c1, c2, d0, d1, d2⟩ | exact ⟨cell_grown hBd c0, cell_grown hBd c1, cell_grown hBd c2, cell_grown hBd d0, cell_grown hBd d1, cell_grown hBd d2⟩)
        (first
          | (go_at_call_has 46 ai
             refine (same_any so so on ci on qi ai pi _ HON.out (by omega) (s0.grown hBd) HON.out (by omega) (t0.grown hBd)).mono ?_
             rintro e w2 ⟨he, hb⟩
             have he2 : e = .returned (.bool true) := by rw [he]; simp
             clear he
             subst he2
             have hBn := hBd.trans (hb.mono hBd.size)
             replace c0 := cell_grown hBn ZO.out.1
             replace c1 := cell_grown hBn ZO.out.2.1
             replace c2 := cell_grown hBn ZO.out.2.2.1
             replace d0 := cell_grown hBn ZO.out.2.2.2.1
             replace d1 := cell_grown hBn ZO.out.2.2.2.2.1
             replace d2 := cell_grown hBn ZO.out.2.2.2.2.2
             clear hBd hb
             have hBd := hBn
             clear hBn)
          | (go_at_call_has 46 bi
             refine (same_any sw sw nn di nn ti bi ri _ HNN.out (by omega) (s1.grown hBd) HNN.out (by omega) (t1.grown hBd)).mono ?_
             rintro e w2 ⟨he, hb⟩
             have he2 : e = .returned (.bool true) := by rw [he]; simp
             clear he
             subst he2
             have hBn := hBd.trans (hb.mono hBd.size)
             replace c0 := cell_grown hBn ZO.out.1
             replace c1 := cell_grown hBn ZO.out.2.1
             replace c2 := cell_grown hBn ZO.out.2.2.1
             replace d0 := cell_grown hBn ZO.out.2.2.2.1
             replace d1 := cell_grown hBn ZO.out.2.2.2.2.1
             replace d2 := cell_grown hBn ZO.out.2.2.2.2.2
             clear hBd hb
             have hBd := hBn
             clear hBn))
      all_goals
        go_wp2
        go_roundw
        case rel => exact ⟨k + 1, by omega, by go_num, below_then hBr hBd⟩
        case measure => simp [intOf]; omega
    · have hkn : k = n := by omega
      subst hkn
      go_wp2
      go_ret
      exact ⟨rfl, hBr⟩

set_option maxRecDepth 100000 in
set_option maxHeartbeats 8000000 in
theorem mendVersions_any (l : Lex) (a1 a2 a3 : Option Addr) (n1 n2 n3 c1 c2 c3 : Nat) (S : List (Int × Int × Int)) (sa : Option Addr) (sn sc : Nat) (R : List (Tx × Int)) (out win : Int) (wa : Option Addr) (wn wc : Nat) (L : List Req) (ra : Option Addr) (rn rc : Nat) (w : World)
    (h1 : l.nums.length = n1) (h2 : l.names.length = n2) (h3 : l.nots.length = n3) (hLx : LexAt w a1 a2 a3 l) (hs : S.length = sn) (hSw : SwapsAt w sa S) (hR : R.length = wn) (hwn : wn ≤ maxLen) (hN : Nums w wa R) (hL : L.length = rn) (hrn : rn ≤ maxLen) (hQ : ReqsAt w ra L) (hqI : ∀ q ∈ L, ReqI q) (hstd : Std w) :
    Calls Tryz.prog 6 #[.agg #[.slice a1 n1 c1, .slice a2 n2 c2, .slice a3 n3 c3], .slice sa sn sc, .agg #[.slice wa wn wc, .int .i64 out, .int .i64 win], .slice ra rn rc] w fun e w' => e = .returned (.bool true) ∧ Below w.heap.size w w' := by
  have H1 := hid h1; have H2 := hid h2; have H3 := hid h3; have HS := hid hs; have HR := hid hR; have HL := hid hL; have HWN := hid hwn; have HRN := hid hrn; have HQI := hid hqI
  clear h1 h2 h3 hs hR hL hwn hrn hqI
  obtain ⟨W0, hW0⟩ : ∃ W, W = (w.alloc (.cells #[.slice a1 n1 c1, .slice a2 n2 c2, .slice a3 n3 c3] 26)).alloc (.cells #[.slice wa wn wc, .int .i64 out, .int .i64 win] 56) := ⟨_, rfl⟩
  have hB0 : Below w.heap.size w W0 := by rw [hW0]; exact ((Below.refl _ w).alloc (Nat.le_refl _) _).alloc (by simp) _
  have x0 : W0.cell? ⟨w.heap.size, 0, none⟩ = some (.slice a1 n1 c1) := by rw [hW0]; simp [go_sem]
  have x1 : W0.cell? ⟨w.heap.size, 1, none⟩ = some (.slice a2 n2 c2) := by rw [hW0]; simp [go_sem]
  have x2 : W0.cell? ⟨w.heap.size, 2, none⟩ = some (.slice a3 n3 c3) := by rw [hW0]; simp [go_sem]
  have y0 : W0.cell? ⟨w.heap.size + 1, 0, none⟩ = some (.slice wa wn wc) := by rw [hW0]; simp [go_sem]
  have y1 : W0.cell? ⟨w.heap.size + 1, 1, none⟩ = some (.int .i64 out) := by rw [hW0]; simp [go_sem]
  have y2 : W0.cell? ⟨w.heap.size + 1, 2, none⟩ = some (.int .i64 win) := by rw [hW0]; simp [go_sem]
  replace hLx := hLx.grown hB0
  replace hSw := hSw.grown hB0
  replace hN := hN.grown hB0
  replace hQ := hQ.grown hB0
  replace hstd := hstd.grown hB0
  have HB := hid hB0
  clear hB0
  go_enter Tryz.func6, Tryz.ntmps6
  go_wp2_with fail
  rw [← hW0]
  clear hW0
  refine (thin_any l a1 a2 a3 sa n1 n2 n3 c1 c2 c3 sn sc W0 H1.out H2.out H3.out hLx).mono ?_
  rintro e w1 ⟨rfl, hb⟩
  replace HB := hid (below_then HB.out hb)
  replace x0 := cell_grown hb x0
  replace x1 := cell_grown hb x1
  replace x2 := cell_grown hb x2
  replace y0 := cell_grown hb y0
  replace y1 := cell_grown hb y1
  replace y2 := cell_grown hb y2
  replace hLx := hLx.grown hb
  replace hSw := hSw.grown hb
  replace hN := hN.grown hb
  replace hQ := hQ.grown hb
  replace hstd := hstd.grown hb
  clear hb
  cases ht : thinM l sn
  · clear ht
    go_wp2_with fail
    refine (awake_any w1 hstd).mono ?_
    rintro e wz ⟨rfl, hb⟩
    go_wp2
    go_ret
    exact ⟨rfl, below_then HB.out hb⟩
  go_wp2_with fail
  refine (few_any R out win wn wc wa L rn rc ra _ HR.out HWN.out hN HL.out HRN.out hQ).mono ?_
  rintro e w2 ⟨rfl, hb⟩
  replace HB := hid (below_then HB.out hb)
  replace x0 := cell_grown hb x0
  replace x1 := cell_grown hb x1
  replace x2 := cell_grown hb x2
  replace y0 := cell_grown hb y0
  replace y1 := cell_grown hb y1
  replace y2 := cell_grown hb y2
  replace hLx := hLx.grown hb
  replace hSw := hSw.grown hb
  replace hN := hN.grown hb
  replace hQ := hQ.grown hb
  replace hstd := hstd.grown hb
  clear hb
  cases hf : fewM R L
  · clear hf
    go_wp2_with fail
    refine (awake_any w2 hstd).mono ?_
    rintro e wz ⟨rfl, hb⟩
    go_wp2
    go_ret
    exact ⟨rfl, below_then HB.out hb⟩
  have hs25 := (thin_ok ht).2
  have HT := hid (thin_ok ht).1
  have HF := hid (few_ok hf)
  have HPUT := hid (few_put hf)
  clear ht hf
  obtain ⟨q1, q2, q3⟩ := thin_sizes HT.out H1.out H2.out H3.out
  have qw : wn ≤ 85 := by have := HF.out.n; rw [HR.out] at this; exact this
  have qr : rn ≤ 25 := by have := HF.out.m; rw [HL.out] at this; exact this
  have hBd : Below w2.heap.size w2 w2.drew := (Below.refl _ _).drew
  go_wp2_with fail
  by_cases hE0 : hearErr l S R out win L = 0
  case neg =>
    have HE0 : Hid (¬ hearErr l S R out win L = 0) := hid hE0
    clear hE0
    go_region_held3 (fun w' : World => w'.cell? ⟨w.heap.size, 0, none⟩ = some (.slice a1 n1 c1) ∧ w'.cell? ⟨w.heap.size, 1, none⟩ = some (.slice a2 n2 c2) ∧ w'.cell? ⟨w.heap.size, 2, none⟩ = some (.slice a3 n3 c3) ∧ w'.cell? ⟨w.heap.size + 1, 0, none⟩ = some (.slice wa wn wc) ∧ w'.cell? ⟨w.heap.size + 1, 1, none⟩ = some (.int .i64 out) ∧ w'.cell? ⟨w.heap.size + 1, 2, none⟩ = some (.int .i64 win)) (exact ⟨x0, x1, x2, y0, y1, y2⟩) (first | (go_at_call 19; replace HB := hid (below_then HB.out hBd); replace x0 := cell_grown hBd x0; replace x1 := cell_grown hBd x1; replace x2 := cell_grown hBd x2; replace y0 := cell_grown hBd y0; replace y1 := cell_grown hBd y1; replace y2 := cell_grown hBd y2; replace hLx := hLx.grown hBd; replace hSw := hSw.grown hBd; replace hN := hN.grown hBd; replace hQ := hQ.grown hBd; replace hstd := hstd.grown hBd; refine (lexicon_any l a1 a2 a3 n1 n2 n3 c1 c2 c3 _ H1.out H2.out H3.out q1 q2 q3 (fun N hN => by have := HT.out.m2 N hN; omega) hLx).mono ?_; rintro e wl1 ⟨b1, b2, b3, d1, d2, d3, rfl, hl3, hb1⟩; replace HB := hid (below_then HB.out hb1); replace x0 := cell_grown hb1 x0; replace x1 := cell_grown hb1 x1; replace x2 := cell_grown hb1 x2; replace y0 := cell_grown hb1 y0; replace y1 := cell_grown hb1 y1; replace y2 := cell_grown hb1 y2; replace hLx := hLx.grown hb1; replace hSw := hSw.grown hb1; replace hN := hN.grown hb1; replace hQ := hQ.grown hb1; replace hstd := hstd.grown hb1) | (go_at_call 27; refine (swaps_any S sn sc sa _ HS.out (by omega) hSw).mono ?_; rintro e wl2 ⟨ta, tc, rfl, hT5, hb2⟩; replace HB := hid (below_then HB.out hb2); replace x0 := cell_grown hb2 x0; replace x1 := cell_grown hb2 x1; replace x2 := cell_grown hb2 x2; replace y0 := cell_grown hb2 y0; replace y1 := cell_grown hb2 y1; replace y2 := cell_grown hb2 y2; replace hLx := hLx.grown hb2; replace hSw := hSw.grown hb2; replace hN := hN.grown hb2; replace hQ := hQ.grown hb2; replace hstd := hstd.grown hb2; replace hl3 := hl3.grown hb2) | (go_at_call 32; refine (report_any R out win wn wc wa _ HR.out (by omega) hN).mono ?_; rintro e wl3 ⟨pa, pc, rfl, hpc, hN6, hb3⟩; replace HB := hid (below_then HB.out hb3); replace x0 := cell_grown hb3 x0; replace x1 := cell_grown hb3 x1; replace x2 := cell_grown hb3 x2; replace y0 := cell_grown hb3 y0; replace y1 := cell_grown hb3 y1; replace y2 := cell_grown hb3 y2; replace hLx := hLx.grown hb3; replace hSw := hSw.grown hb3; replace hN := hN.grown hb3; replace hQ := hQ.grown hb3; replace hstd := hstd.grown hb3; replace hl3 := hl3.grown hb3; replace hT5 := hT5.grown hb3) | (go_at_call 34; refine (requests_any L rn rc ra _ HL.out (by omega) hQ HF.out.p).mono ?_; rintro e wl4 ⟨ka, kc, rfl, hQ7, hb4⟩; replace HB := hid (below_then HB.out hb4); replace x0 := cell_grown hb4 x0; replace x1 := cell_grown hb4 x1; replace x2 := cell_grown hb4 x2; replace y0 := cell_grown hb4 y0; replace y1 := cell_grown hb4 y1; replace y2 := cell_grown hb4 y2; replace hLx := hLx.grown hb4; replace hSw := hSw.grown hb4; replace hN := hN.grown hb4; replace hQ := hQ.grown hb4; replace hstd := hstd.grown hb4; replace hl3 := hl3.grown hb4; replace hT5 := hT5.grown hb4; replace hN6 := hN6.grown hb4) | (go_at_call 38; refine (versionsF_any l b1 b2 b3 n1 n2 n3 d1 d2 d3 S ta sn tc R pa wn pc out win L ka rn kc _ H1.out H2.out H3.out hl3 HS.out (by unfold maxLen; omega) hT5 HR.out HWN.out hpc hN6 HL.out hQ7 (fun q hq => (HQI.out q hq).2.2.2) hstd).mono ?_; rintro e wl5 ⟨hb5, he⟩; rw [if_neg HE0.out] at he; subst he; replace HB := hid (below_then HB.out hb5); replace x0 := cell_grown hb5 x0; replace x1 := cell_grown hb5 x1; replace x2 := cell_grown hb5 x2; replace y0 := cell_grown hb5 y0; replace y1 := cell_grown hb5 y1; replace y2 := cell_grown hb5 y2; replace hLx := hLx.grown hb5; replace hSw := hSw.grown hb5; replace hN := hN.grown hb5; replace hQ := hQ.grown hb5; replace hstd := hstd.grown hb5))
    clear hb1 hb2 hb3 hb4 hb5 hl3 hT5 hN6 hQ7 hBd hpc
    go_wp2_with fail
    refine (wrong_any l a1 a2 a3 n1 n2 n3 c1 c2 c3 S sa sn sc R out win wa wn wc L ra rn rc _ H1.out H2.out H3.out HT.out hLx HS.out (by omega) hSw HR.out (by omega) HF.out.s hN HL.out).mono ?_
    rintro e w7 ⟨rfl, hb⟩
    replace HB := hid (below_then HB.out hb)
    replace hstd := hstd.grown hb
    clear hb
    obtain ⟨he, hhe⟩ : ∃ z, hearErr l S R out win L = z := ⟨_, rfl⟩
    rw [hhe] at HE0 ⊢
    have gh : (he != 0) = true := by simpa using HE0.out
    have gh2 : (he == he) = true := by simp
    clear hhe
    go_wp2_with fail
    refine (awake_any _ hstd).mono ?_
    rintro e wz ⟨rfl, hb⟩
    go_wp2
    go_ret
    exact ⟨rfl, below_then HB.out hb⟩
  have HE0 := hid hE0
  clear hE0
  go_region_held3 (fun w' : World => w'.cell? ⟨w.heap.size, 0, none⟩ = some (.slice a1 n1 c1) ∧ w'.cell? ⟨w.heap.size, 1, none⟩ = some (.slice a2 n2 c2) ∧ w'.cell? ⟨w.heap.size, 2, none⟩ = some (.slice a3 n3 c3) ∧ w'.cell? ⟨w.heap.size + 1, 0, none⟩ = some (.slice wa wn wc) ∧ w'.cell? ⟨w.heap.size + 1, 1, none⟩ = some (.int .i64 out) ∧ w'.cell? ⟨w.heap.size + 1, 2, none⟩ = some (.int .i64 win)) (exact ⟨x0, x1, x2, y0, y1, y2⟩) (first | (go_at_call 19; replace HB := hid (below_then HB.out hBd); replace x0 := cell_grown hBd x0; replace x1 := cell_grown hBd x1; replace x2 := cell_grown hBd x2; replace y0 := cell_grown hBd y0; replace y1 := cell_grown hBd y1; replace y2 := cell_grown hBd y2; replace hLx := hLx.grown hBd; replace hSw := hSw.grown hBd; replace hN := hN.grown hBd; replace hQ := hQ.grown hBd; replace hstd := hstd.grown hBd; refine (lexicon_any l a1 a2 a3 n1 n2 n3 c1 c2 c3 _ H1.out H2.out H3.out q1 q2 q3 (fun N hN => by have := HT.out.m2 N hN; omega) hLx).mono ?_; rintro e wl1 ⟨b1, b2, b3, d1, d2, d3, rfl, hl3, hb1⟩; replace HB := hid (below_then HB.out hb1); replace x0 := cell_grown hb1 x0; replace x1 := cell_grown hb1 x1; replace x2 := cell_grown hb1 x2; replace y0 := cell_grown hb1 y0; replace y1 := cell_grown hb1 y1; replace y2 := cell_grown hb1 y2; replace hLx := hLx.grown hb1; replace hSw := hSw.grown hb1; replace hN := hN.grown hb1; replace hQ := hQ.grown hb1; replace hstd := hstd.grown hb1) | (go_at_call 27; refine (swaps_any S sn sc sa _ HS.out (by omega) hSw).mono ?_; rintro e wl2 ⟨ta, tc, rfl, hT5, hb2⟩; replace HB := hid (below_then HB.out hb2); replace x0 := cell_grown hb2 x0; replace x1 := cell_grown hb2 x1; replace x2 := cell_grown hb2 x2; replace y0 := cell_grown hb2 y0; replace y1 := cell_grown hb2 y1; replace y2 := cell_grown hb2 y2; replace hLx := hLx.grown hb2; replace hSw := hSw.grown hb2; replace hN := hN.grown hb2; replace hQ := hQ.grown hb2; replace hstd := hstd.grown hb2; replace hl3 := hl3.grown hb2) | (go_at_call 32; refine (report_any R out win wn wc wa _ HR.out (by omega) hN).mono ?_; rintro e wl3 ⟨pa, pc, rfl, hpc, hN6, hb3⟩; replace HB := hid (below_then HB.out hb3); replace x0 := cell_grown hb3 x0; replace x1 := cell_grown hb3 x1; replace x2 := cell_grown hb3 x2; replace y0 := cell_grown hb3 y0; replace y1 := cell_grown hb3 y1; replace y2 := cell_grown hb3 y2; replace hLx := hLx.grown hb3; replace hSw := hSw.grown hb3; replace hN := hN.grown hb3; replace hQ := hQ.grown hb3; replace hstd := hstd.grown hb3; replace hl3 := hl3.grown hb3; replace hT5 := hT5.grown hb3) | (go_at_call 34; refine (requests_any L rn rc ra _ HL.out (by omega) hQ HF.out.p).mono ?_; rintro e wl4 ⟨ka, kc, rfl, hQ7, hb4⟩; replace HB := hid (below_then HB.out hb4); replace x0 := cell_grown hb4 x0; replace x1 := cell_grown hb4 x1; replace x2 := cell_grown hb4 x2; replace y0 := cell_grown hb4 y0; replace y1 := cell_grown hb4 y1; replace y2 := cell_grown hb4 y2; replace hLx := hLx.grown hb4; replace hSw := hSw.grown hb4; replace hN := hN.grown hb4; replace hQ := hQ.grown hb4; replace hstd := hstd.grown hb4; replace hl3 := hl3.grown hb4; replace hT5 := hT5.grown hb4; replace hN6 := hN6.grown hb4) | (go_at_call 38; refine (versionsF_any l b1 b2 b3 n1 n2 n3 d1 d2 d3 S ta sn tc R pa wn pc out win L ka rn kc _ H1.out H2.out H3.out hl3 HS.out (by unfold maxLen; omega) hT5 HR.out HWN.out hpc hN6 HL.out hQ7 (fun q hq => (HQI.out q hq).2.2.2) hstd).mono ?_; rintro e wl5 ⟨hb5, he⟩; rw [if_pos HE0.out] at he; obtain ⟨sg, sgn, sgc, Q, rfl, hPO, hSL, hSG⟩ := he; replace HB := hid (below_then HB.out hb5); replace x0 := cell_grown hb5 x0; replace x1 := cell_grown hb5 x1; replace x2 := cell_grown hb5 x2; replace y0 := cell_grown hb5 y0; replace y1 := cell_grown hb5 y1; replace y2 := cell_grown hb5 y2; replace hLx := hLx.grown hb5; replace hSw := hSw.grown hb5; replace hN := hN.grown hb5; replace hQ := hQ.grown hb5; replace hstd := hstd.grown hb5))
  obtain ⟨o1, o2, hw80⟩ := report_of_heard HE0.out
  clear hb1 hb2 hb3 hb4 hb5 hl3 hT5 hN6 hQ7 hBd hpc
  have hseg := place_segs (P := putM L) hPO
  have hfl := place_flow hPO
  have htx := segM_texts hPO (report_right HE0.out)
  rw [HR.out, HL.out] at hseg hfl
  have hsl41 : sgn ≤ 50000 := by have := segM_length (R := R) (P := putM L) (Q := Q); have := hPO.few; have := HL.out; omega
  obtain ⟨X, hX⟩ : ∃ X, segM R (putM L) Q = X := ⟨_, rfl⟩
  rw [hX] at hSG hSL hseg htx
  have HSL := hid hSL
  have HSEG := hid hseg
  have HFL := hid hfl
  have HTX := hid htx
  clear hPO hX hSL hseg hfl htx
  go_wp2_with fail
  refine (wrong_any l a1 a2 a3 n1 n2 n3 c1 c2 c3 S sa sn sc R out win wa wn wc L ra rn rc _ H1.out H2.out H3.out HT.out hLx HS.out (by omega) hSw HR.out (by omega) HF.out.s hN HL.out).mono ?_
  rintro e w7 ⟨rfl, hb⟩
  rw [HE0.out]
  replace HB := hid (below_then HB.out hb)
  replace x0 := cell_grown hb x0
  replace x1 := cell_grown hb x1
  replace x2 := cell_grown hb x2
  replace y0 := cell_grown hb y0
  replace y1 := cell_grown hb y1
  replace y2 := cell_grown hb y2
  replace hLx := hLx.grown hb
  replace hSw := hSw.grown hb
  replace hN := hN.grown hb
  replace hQ := hQ.grown hb
  replace hstd := hstd.grown hb
  replace hSG := hSG.grown hb
  clear hb
  have hBd : Below w7.heap.size w7 w7.drew := (Below.refl _ _).drew
  go_wp2_with fail
  go_region_held3 (fun w' : World => w'.cell? ⟨w.heap.size, 0, none⟩ = some (.slice a1 n1 c1) ∧ w'.cell? ⟨w.heap.size, 1, none⟩ = some (.slice a2 n2 c2) ∧ w'.cell? ⟨w.heap.size, 2, none⟩ = some (.slice a3 n3 c3) ∧ w'.cell? ⟨w.heap.size + 1, 0, none⟩ = some (.slice wa wn wc) ∧ w'.cell? ⟨w.heap.size + 1, 1, none⟩ = some (.int .i64 out) ∧ w'.cell? ⟨w.heap.size + 1, 2, none⟩ = some (.int .i64 win)) (exact ⟨x0, x1, x2, y0, y1, y2⟩) (first
    | (go_at_call 37
       replace HB := hid (below_then HB.out hBd)
       replace x0 := cell_grown hBd x0
       replace x1 := cell_grown hBd x1
       replace x2 := cell_grown hBd x2
       replace y0 := cell_grown hBd y0
       replace y1 := cell_grown hBd y1
       replace y2 := cell_grown hBd y2
       replace hLx := hLx.grown hBd
       replace hSw := hSw.grown hBd
       replace hN := hN.grown hBd
       replace hQ := hQ.grown hBd
       replace hstd := hstd.grown hBd
       replace hSG := hSG.grown hBd
       refine (refDecide_any l a1 a2 a3 n1 n2 n3 c1 c2 c3 S sa sn sc R out win wa wn wc L ra rn rc _ H1.out H2.out H3.out hLx HS.out (by omega) hSw HR.out (by omega) hN HF.out.s o1 o2 HL.out (by omega) hQ (fun q hq => ⟨(HPUT.out q hq).1, (HPUT.out q hq).2, (HQI.out q hq).2.2.2⟩)).mono ?_
       rintro e w8 ⟨rb, rfl, hI2, hb8⟩
       rw [show (stQ (aloneM (entries l) S R out win L) L rn).1 = decideM l S R out win L from by rw [← HL.out, stQ_all]; rfl] at hI2
       replace HB := hid (below_then HB.out hb8)
       replace x0 := cell_grown hb8 x0
       replace x1 := cell_grown hb8 x1
       replace x2 := cell_grown hb8 x2
       replace y0 := cell_grown hb8 y0
       replace y1 := cell_grown hb8 y1
       replace y2 := cell_grown hb8 y2
       replace hLx := hLx.grown hb8
       replace hSw := hSw.grown hb8
       replace hN := hN.grown hb8
       replace hQ := hQ.grown hb8
       replace hstd := hstd.grown hb8
       replace hSG := hSG.grown hb8)
    | (go_at_call 40
       refine (refVersions_any R out win wa wn wc L ra rn rc (some ⟨rb, 0, none⟩) rn (decideM l S R out win L) _ HR.out (by omega) hN HL.out (by omega) hQ hI2 HFL.out).mono ?_
       rintro e w9 ⟨ea, ec, he, hSR, hb9⟩
       rw [← HSEG.out] at he hSR
       rw [HSL.out] at he
       subst he
       replace HB := hid (below_then HB.out hb9)
       replace x0 := cell_grown hb9 x0
       replace x1 := cell_grown hb9 x1
       replace x2 := cell_grown hb9 x2
       replace y0 := cell_grown hb9 y0
       replace y1 := cell_grown hb9 y1
       replace y2 := cell_grown hb9 y2
       replace hLx := hLx.grown hb9
       replace hSw := hSw.grown hb9
       replace hN := hN.grown hb9
       replace hQ := hQ.grown hb9
       replace hstd := hstd.grown hb9
       replace hSG := hSG.grown hb9)
    | (go_at_call 39
       refine (segsSame_any X sgn sgc _ sg _ _ HSL.out hsl41 (fun g hg => by have := HTX.out g hg; omega) hSG hSR).mono ?_
       rintro e w10 ⟨rfl, hb10⟩
       replace HB := hid (below_then HB.out hb10)
       replace x0 := cell_grown hb10 x0
       replace x1 := cell_grown hb10 x1
       replace x2 := cell_grown hb10 x2
       replace y0 := cell_grown hb10 y0
       replace y1 := cell_grown hb10 y1
       replace y2 := cell_grown hb10 y2
       replace hLx := hLx.grown hb10
       replace hSw := hSw.grown hb10
       replace hN := hN.grown hb10
       replace hQ := hQ.grown hb10
       replace hstd := hstd.grown hb10)
    | (go_at_call 17
       refine (awake_any _ hstd).mono ?_
       rintro e w11 ⟨rfl, hb11⟩
       replace HB := hid (below_then HB.out hb11)
       replace x0 := cell_grown hb11 x0
       replace x1 := cell_grown hb11 x1
       replace x2 := cell_grown hb11 x2
       replace y0 := cell_grown hb11 y0
       replace y1 := cell_grown hb11 y1
       replace y2 := cell_grown hb11 y2
       replace hLx := hLx.grown hb11
       replace hSw := hSw.grown hb11
       replace hN := hN.grown hb11
       replace hQ := hQ.grown hb11
       replace hstd := hstd.grown hb11))
  all_goals
    go_wp2
    go_ret
    exact ⟨rfl, HB.out⟩

end Go.Proofs.YtbampfkmgjfofaaGreatDoor
