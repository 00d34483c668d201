/- Contracts of the reference's Worst, may and IsRota. -/
import Derived.Test.YtgapbaelifcifaaMC
namespace Go.Proofs.Ytgapbaelifcifaa
open Go.RowKit

theorem end_done (T : List (Int × Int)) (k : Nat) (s d : Int) : endM (T.getD k (0, 0)) s d = doneM T k s d := by
  unfold endM doneM
  omega

set_option maxRecDepth 100000 in
set_option maxHeartbeats 1000000 in
theorem worst_any (C : List (Int × Int × Int)) (due delay f t : Int) (r cn cc : Nat) (ca : Option Addr) (w : World) (hC : C.length = cn) (_ : cn ≤ 1000000) (hCr : Crew w ca C) (hr : r < cn)
    (h1 : 0 ≤ f ∧ f < t ∧ t ≤ 36000) (h2 : 0 ≤ (C.getD r (0, 0, 0)).2.1 ∧ (C.getD r (0, 0, 0)).2.1 ≤ 20) (h3 : 0 ≤ delay ∧ delay ≤ 36000) :
    Calls Try.prog 69 #[.agg #[.slice ca cn cc, .int .i64 due, .int .i64 delay], .agg #[.int .i64 f, .int .i64 t], .int .i64 (r : Int)] w fun e w' => e = .returned (.int .i64 (endM (f, t) (C.getD r (0, 0, 0)).2.1 delay)) ∧ Below w.heap.size w w' := by
  obtain ⟨bc, oc, rfl, d1, d2, d3⟩ := hCr r (by rw [hC]; exact hr)
  obtain ⟨x, hx⟩ : ∃ x, C.getD r (0, 0, 0) = x := ⟨_, rfl⟩
  rw [hx] at d1 d2 d3 h2 ⊢
  clear hx hCr hC d1 d3
  obtain ⟨lo, hi, rest⟩ := x
  simp only at d2 h2 ⊢
  have hrr : (r : Int) < cn := by omega
  obtain ⟨z, hz⟩ : ∃ z, endM (f, t) hi delay = z := ⟨_, rfl⟩
  have HZ := hid hz
  rw [hz]
  clear hz
  go_enter Try.func69, Try.ntmps69
  go_wp2_with fail
  obtain ⟨W0, hW0⟩ : ∃ W0, W0 = (w.alloc (.cells #[.slice (some ⟨bc, oc, none⟩) cn cc, .int .i64 due, .int .i64 delay] 27)).alloc (.cells #[.int .i64 f, .int .i64 t] 51) := ⟨_, rfl⟩
  have hB0 : Below w.heap.size w W0 := by rw [hW0]; exact ((Below.refl _ w).alloc (Nat.le_refl _) _).alloc (by simp) _
  have z0 : W0.heap.size = w.heap.size + 2 := by rw [hW0]; simp
  have y0 : W0.cell? ⟨w.heap.size, 0, none⟩ = some (.slice (some ⟨bc, oc, none⟩) cn cc) := by rw [hW0]; simp [go_sem]
  have y2 : W0.cell? ⟨w.heap.size, 2, none⟩ = some (.int .i64 delay) := by rw [hW0]; simp [go_sem]
  have x0 : W0.cell? ⟨w.heap.size + 1, 0, none⟩ = some (.int .i64 f) := by rw [hW0]; simp [go_sem]
  have x1 : W0.cell? ⟨w.heap.size + 1, 1, none⟩ = some (.int .i64 t) := by rw [hW0]; simp [go_sem]
  replace d2 := cell_grown hB0 d2
  rw [← hW0]
  clear hW0
  have g0 := lt_of_cell y0
  have g1 := lt_of_cell x0
  have g2 := lt_of_cell d2
  have hBd : Below W0.heap.size W0 W0.drew := (Below.refl _ _).drew
  go_region_held3 (fun w' : World => w'.cell? ⟨w.heap.size, 0, none⟩ = some (.slice (some ⟨bc, oc, none⟩) cn cc) ∧ w'.cell? ⟨w.heap.size, 2, none⟩ = some (.int .i64 delay) ∧ w'.cell? ⟨w.heap.size + 1, 0, none⟩ = some (.int .i64 f) ∧ w'.cell? ⟨w.heap.size + 1, 1, none⟩ = some (.int .i64 t) ∧ w'.cell? ⟨bc, oc + r * 3 + 1, none⟩ = some (.int .i64 hi)) (exact ⟨y0, y2, x0, x1, d2⟩) (first
    | (go_at_call 66; refine (end_any f t hi delay _ (by omega) (by omega) (by omega)).mono ?_; rintro e w2 ⟨rfl, hb2⟩; rw [HZ.out]; have hB2 := hB0.trans ((hBd.trans (hb2.mono (Nat.le_refl _))).mono hB0.size); replace y0 := cell_grown hb2 (show W0.drew.cell? _ = _ from y0); replace y2 := cell_grown hb2 (show W0.drew.cell? _ = _ from y2); replace x0 := cell_grown hb2 (show W0.drew.cell? _ = _ from x0); replace x1 := cell_grown hb2 (show W0.drew.cell? _ = _ from x1); replace d2 := cell_grown hb2 (show W0.drew.cell? _ = _ from d2)))
  go_wp2
  go_ret
  exact ⟨rfl, hB2⟩

theorem toNat_get {Z : List Int} {j : Nat} (hj : j < Z.length) {r : Nat} (h : Z.getD j 0 = (r : Int)) : (Z.map Int.toNat).getD j 0 = r := by
  rw [List.getD_eq_getElem?_getD, List.getElem?_eq_getElem hj, Option.getD_some] at h
  rw [List.getD_eq_getElem?_getD, List.getElem?_map, List.getElem?_eq_getElem hj]
  simp only [Option.map_some, Option.getD_some]
  omega

set_option maxRecDepth 100000 in
set_option maxHeartbeats 4000000 in
theorem mayR_any (C : List (Int × Int × Int)) (T : List (Int × Int)) (Z : List Int) (due delay : Int) (k mm cn cc n tc zc : Nat) (hmm : mm = k + 1) (ca ta za : Option Addr) (w : World)
    (hC : C.length = cn) (hcn : cn ≤ 5) (hCr : Crew w ca C) (hbC : ∀ i, i < cn → 0 ≤ (C.getD i (0, 0, 0)).1 ∧ (C.getD i (0, 0, 0)).1 ≤ (C.getD i (0, 0, 0)).2.1 ∧ (C.getD i (0, 0, 0)).2.1 ≤ 20 ∧ 0 ≤ (C.getD i (0, 0, 0)).2.2 ∧ (C.getD i (0, 0, 0)).2.2 ≤ 36000)
    (hT : T.length = n) (hn : n ≤ 40) (hST : Spans w ta T) (hbT : ∀ k, k < n → 0 ≤ (T.getD k (0, 0)).1 ∧ (T.getD k (0, 0)).1 < (T.getD k (0, 0)).2 ∧ (T.getD k (0, 0)).2 ≤ 36000)
    (hkn : k < n) (hkZ : k < Z.length) (hI : Ints w za Z) (hZr : ∀ j, j ≤ k → 0 ≤ Z.getD j 0 ∧ Z.getD j 0 < cn) (hdue : 0 ≤ due ∧ due ≤ 36000) (hdl : 0 ≤ delay ∧ delay ≤ 36000) :
    Calls Try.prog 61 #[.agg #[.slice ca cn cc, .int .i64 due, .int .i64 delay], .slice ta n tc, .slice za mm zc] w fun e w' => e = .returned (.bool (rotaOk due delay C T (Z.map Int.toNat) k)) ∧ Below w.heap.size w w' := by
  subst hmm
  obtain ⟨v, hv⟩ : ∃ v, rotaOk due delay C T (Z.map Int.toNat) k = v := ⟨_, rfl⟩
  rw [hv]
  obtain ⟨r, hr⟩ : ∃ r : Nat, Z.getD k 0 = (r : Int) := ⟨(Z.getD k 0).toNat, by have := hZr k (Nat.le_refl _); omega⟩
  have hrc : r < cn := by have := hZr k (Nat.le_refl _); omega
  have hRk := toNat_get hkZ hr
  obtain ⟨bz, oz, rfl, e1⟩ := hI k hkZ
  rw [hr] at e1
  have hbT' := hbT k hkn
  obtain ⟨bt, ot, rfl, e2, e3⟩ := hST k (by rw [hT]; exact hkn)
  have HVV : Hid (v = (decide (endM (T.getD k (0, 0)) (C.getD r (0, 0, 0)).2.1 delay ≤ (T.getD k (0, 0)).2 + due) && lookN delay C T (Z.map Int.toNat) k r k)) := hid (by rw [← hv]; unfold rotaOk; rw [hRk, end_done])
  have HZR := hid hZr
  have HBC := hid hbC
  have HBT := hid hbT
  have HC := hid hC
  have HT := hid hT
  clear hv hr hRk hZr hbT hC hT hbC
  have hbCr := HBC.out r hrc
  obtain ⟨bc, oc, hca, d1, d2, d3⟩ := hCr r (by rw [HC.out]; exact hrc)
  subst hca
  obtain ⟨x, hx⟩ : ∃ x, T.getD k (0, 0) = x := ⟨_, rfl⟩
  have HX := hid hx
  rw [hx] at e2 e3 hbT' HVV
  clear hx
  obtain ⟨f, t⟩ := x
  simp only at e2 e3 hbT' HVV
  obtain ⟨m, hm⟩ : ∃ m, endM (f, t) (C.getD r (0, 0, 0)).2.1 delay = m := ⟨_, rfl⟩
  have HM := hid hm
  rw [hm] at HVV
  clear hm
  obtain ⟨rs, hrs⟩ : ∃ x, (C.getD r (0, 0, 0)).2.2 = x := ⟨_, rfl⟩
  have HRS := hid hrs
  rw [hrs] at d3
  clear hrs d1 d2
  have hrr : (r : Int) < cn := by omega
  have hkk : (k : Int) < n := by omega
  have g1 := lt_of_cell e1
  have g2 := lt_of_cell e2
  have g3 := lt_of_cell d3
  go_enter Try.func61, Try.ntmps61
  go_wp2_with fail
  obtain ⟨W0, hW0⟩ : ∃ W0, W0 = w.alloc (.cells #[.slice (some ⟨bc, oc, none⟩) cn cc, .int .i64 due, .int .i64 delay] 27) := ⟨_, rfl⟩
  have hB0 : Below w.heap.size w W0 := by rw [hW0]; exact (Below.refl _ w).alloc (Nat.le_refl _) _
  have z0 : W0.heap.size = w.heap.size + 1 := by rw [hW0]; simp
  have y0 : W0.cell? ⟨w.heap.size, 0, none⟩ = some (.slice (some ⟨bc, oc, none⟩) cn cc) := by rw [hW0]; simp [go_sem]
  have y1 : W0.cell? ⟨w.heap.size, 1, none⟩ = some (.int .i64 due) := by rw [hW0]; simp [go_sem]
  have y2 : W0.cell? ⟨w.heap.size, 2, none⟩ = some (.int .i64 delay) := by rw [hW0]; simp [go_sem]
  replace e1 := cell_grown hB0 e1
  replace e2 := cell_grown hB0 e2
  replace e3 := cell_grown hB0 e3
  replace d3 := cell_grown hB0 d3
  rw [← hW0]
  clear hW0
  have g0 := lt_of_cell y0
  replace g1 := lt_of_cell e1
  replace g2 := lt_of_cell e2
  replace g3 := lt_of_cell d3
  have hBd : Below W0.heap.size W0 W0.drew := (Below.refl _ _).drew
  have hCr0 := (hCr.grown hB0).grown hBd
  have hwr : IntKind.i64.wrap (t + due) = t + due := by rw [IntKind.wrap_i64]; omega
  go_region_held3 (fun w' : World => w'.cell? ⟨w.heap.size, 0, none⟩ = some (.slice (some ⟨bc, oc, none⟩) cn cc) ∧ w'.cell? ⟨w.heap.size, 1, none⟩ = some (.int .i64 due) ∧ w'.cell? ⟨w.heap.size, 2, none⟩ = some (.int .i64 delay) ∧ w'.cell? ⟨bt, ot + k * 2, none⟩ = some (.int .i64 f) ∧ w'.cell? ⟨bt, ot + k * 2 + 1, none⟩ = some (.int .i64 t)) (exact ⟨y0, y1, y2, e2, e3⟩) (first
    | (go_at_call 69; refine (worst_any C due delay f t r cn cc _ _ HC.out (by omega) hCr0 hrc hbT' (by omega) hdl).mono ?_; rintro e w1 ⟨rfl, hb1⟩; rw [HM.out]; have hB1 := hBd.trans (hb1.mono (Nat.le_refl _)); replace y0 := cell_grown hB1 y0; replace y1 := cell_grown hB1 y1; replace y2 := cell_grown hB1 y2; replace e2 := cell_grown hB1 e2; replace e3 := cell_grown hB1 e3; replace d3 := cell_grown hB1 d3))
  have hBw := hB0.trans (hB1.mono hB0.size)
  clear hb1 hCr0 hB1 hBd e1
  by_cases hle : m ≤ t + due
  · have HV2 : Hid (v = lookN delay C T (Z.map Int.toNat) k r k) := hid (by rw [HVV.out, decide_eq_true hle, Bool.true_and])
    clear HVV
    go_wp2_with fail
    go_loopw [9] (fun i wr => ∃ j : Nat, j ≤ k ∧ i = .int .i64 ((j : Int) - 1) ∧ Hid (lookN delay C T (Z.map Int.toNat) k r j = v) ∧ Below w1.heap.size w1 wr) (fun i _ => (intOf i + 1).toNat)
    case atStart => exact ⟨k, Nat.le_refl _, rfl, HV2.out.symm, Below.refl _ _⟩
    case round =>
      obtain ⟨j, hj, rfl, hq, hB⟩ := hrel
      have hBr := hBw.trans (hB.mono hBw.size)
      cases j with
      | zero =>
        have hvt : v = true := by rw [← hq.out]; rfl
        rw [show (((0 : Nat) : Int) - 1) = -1 from rfl]
        go_wp2
        go_ret
        exact ⟨by rw [hvt]; rfl, hBr⟩
      | succ j =>
        rw [show (((j + 1 : Nat) : Int) - 1) = (j : Int) from by omega]
        have hjZ : j < Z.length := by omega
        obtain ⟨q, hqz⟩ : ∃ q : Nat, Z.getD j 0 = (q : Int) := ⟨(Z.getD j 0).toNat, by have := HZR.out j (by omega); omega⟩
        have hRj := toNat_get hjZ hqz
        obtain ⟨bz', oz', ea, e4⟩ := hI j hjZ
        simp only [Option.some.injEq, Addr.mk.injEq, and_true] at ea
        obtain ⟨rfl, rfl⟩ := ea
        rw [hqz] at e4
        replace e4 := cell_grown hBr e4
        have hql := hq.out
        rw [lookN, hRj] at hql
        clear hqz hRj hq
        have g4 := lt_of_cell e4
        have hjj : (j : Int) < (k : Int) + 1 := by omega
        by_cases hqr : q = r
        · subst hqr
          rw [if_pos rfl] at hql
          have hjn : j < n := by omega
          have hbTj := HBT.out j hjn
          obtain ⟨bt', ot', ea, e5, e6⟩ := hST j (by rw [HT.out]; exact hjn)
          simp only [Option.some.injEq, Addr.mk.injEq, and_true] at ea
          obtain ⟨rfl, rfl⟩ := ea
          replace e5 := cell_grown hBr e5
          replace e6 := cell_grown hBr e6
          have HVF : Hid (v = decide (endM (T.getD j (0, 0)) (C.getD q (0, 0, 0)).2.1 delay + rs ≤ f)) := hid (by rw [← hql, ← HRS.out, HX.out, end_done]; rfl)
          clear hql
          obtain ⟨x, hx⟩ : ∃ x, T.getD j (0, 0) = x := ⟨_, rfl⟩
          rw [hx] at e5 e6 hbTj HVF
          clear hx
          obtain ⟨f', t'⟩ := x
          simp only at e5 e6 hbTj HVF
          have hEb : 0 ≤ endM (f', t') (C.getD q (0, 0, 0)).2.1 delay ∧ endM (f', t') (C.getD q (0, 0, 0)).2.1 delay ≤ 1000000 := by
            have := mul_bd (x := t' - f') (y := (C.getD q (0, 0, 0)).2.1) (by omega) (by omega) (by omega) (by omega)
            unfold endM
            simp only
            omega
          obtain ⟨m2, hm2⟩ : ∃ m, endM (f', t') (C.getD q (0, 0, 0)).2.1 delay = m := ⟨_, rfl⟩
          have HM2 := hid hm2
          rw [hm2] at HVF hEb
          clear hm2
          have hrsb : 0 ≤ rs ∧ rs ≤ 36000 := by rw [← HRS.out]; exact ⟨hbCr.2.2.2.1, hbCr.2.2.2.2⟩
          have v0 := cell_grown hB y0
          have v1 := cell_grown hB y1
          have v2 := cell_grown hB y2
          have u2 := cell_grown hB e2
          have u4 := cell_grown hB d3
          have g5 := lt_of_cell e5
          have g6 := lt_of_cell u4
          have g7 := lt_of_cell v0
          have hBd : Below wr.heap.size wr wr.drew := (Below.refl _ _).drew
          have hCr1 := (hCr.grown hBr).grown hBd
          have hwr2 : IntKind.i64.wrap (m2 + rs) = m2 + rs := by rw [IntKind.wrap_i64]; omega
          go_wp2_with fail
          go_region_held3 (fun w' : World => w'.cell? ⟨w.heap.size, 0, none⟩ = some (.slice (some ⟨bc, oc, none⟩) cn cc) ∧ w'.cell? ⟨w.heap.size, 1, none⟩ = some (.int .i64 due) ∧ w'.cell? ⟨w.heap.size, 2, none⟩ = some (.int .i64 delay) ∧ w'.cell? ⟨bt, ot + k * 2, none⟩ = some (.int .i64 f) ∧ w'.cell? ⟨bt, ot + j * 2, none⟩ = some (.int .i64 f') ∧ w'.cell? ⟨bt, ot + j * 2 + 1, none⟩ = some (.int .i64 t') ∧ w'.cell? ⟨bc, oc + q * 3 + 2, none⟩ = some (.int .i64 rs)) (exact ⟨v0, v1, v2, u2, e5, e6, u4⟩) (first
            | (go_at_call 69; refine (worst_any C due delay f' t' q cn cc _ _ HC.out (by omega) hCr1 hrc hbTj (by omega) hdl).mono ?_; rintro e w3 ⟨rfl, hb3⟩; rw [HM2.out]; have hB3 := hBd.trans (hb3.mono (Nat.le_refl _)); replace v0 := cell_grown hB3 v0; replace v1 := cell_grown hB3 v1; replace v2 := cell_grown hB3 v2; replace u2 := cell_grown hB3 u2; replace e5 := cell_grown hB3 e5; replace e6 := cell_grown hB3 e6; replace u4 := cell_grown hB3 u4))
          have hBf := hBr.trans (hB3.mono hBr.size)
          go_wp2
          go_ret
          exact ⟨by rw [HVF.out]; rfl, hBf⟩
        · rw [if_neg hqr] at hql
          have hqi : ¬ (q : Int) = (r : Int) := by omega
          have hqb : ((q : Int) == (r : Int)) = false := by simp; omega
          go_wp2_with fail
          go_roundw
          case rel => exact ⟨j, by omega, by go_num, hid hql, hB⟩
          case measure => simp [intOf]
  · have HVF : Hid (v = false) := hid (by rw [HVV.out, decide_eq_false hle]; rfl)
    have hle2 : t + due < m := by omega
    go_wp2
    go_ret
    exact ⟨by rw [HVF.out]; rfl, hBw⟩

set_option maxRecDepth 100000 in
set_option maxHeartbeats 4000000 in
theorem isRota_any (C : List (Int × Int × Int)) (T : List (Int × Int)) (Z : List Int) (due delay : Int) (cn cc n tc zc : Nat) (ca ta za : Option Addr) (w : World)
    (hC : C.length = cn) (hcn : cn ≤ 5) (hCr : Crew w ca C) (hbC : ∀ i, i < cn → 0 ≤ (C.getD i (0, 0, 0)).1 ∧ (C.getD i (0, 0, 0)).1 ≤ (C.getD i (0, 0, 0)).2.1 ∧ (C.getD i (0, 0, 0)).2.1 ≤ 20 ∧ 0 ≤ (C.getD i (0, 0, 0)).2.2 ∧ (C.getD i (0, 0, 0)).2.2 ≤ 36000)
    (hT : T.length = n) (hn : n ≤ 40) (hST : Spans w ta T) (hbT : ∀ k, k < n → 0 ≤ (T.getD k (0, 0)).1 ∧ (T.getD k (0, 0)).1 < (T.getD k (0, 0)).2 ∧ (T.getD k (0, 0)).2 ≤ 36000)
    (hZ : Z.length = n) (hI : Ints w za Z) (hzc : n ≤ zc) (hZr : ∀ j, j < n → 0 ≤ Z.getD j 0 ∧ Z.getD j 0 < cn) (hdue : 0 ≤ due ∧ due ≤ 36000) (hdl : 0 ≤ delay ∧ delay ≤ 36000) :
    Calls Try.prog 37 #[.agg #[.slice ca cn cc, .int .i64 due, .int .i64 delay], .slice ta n tc, .slice za n zc] w fun e w' => e = .returned (.bool ((List.range n).all fun k => rotaOk due delay C T (Z.map Int.toNat) k)) ∧ Below w.heap.size w w' := by
  obtain ⟨v, hv⟩ : ∃ v, ((List.range n).all fun k => rotaOk due delay C T (Z.map Int.toNat) k) = v := ⟨_, rfl⟩
  rw [hv]
  have HV := hid hv
  have HZR := hid hZr
  have HBC := hid hbC
  have HBT := hid hbT
  have HC := hid hC
  have HT := hid hT
  have HZ := hid hZ
  clear hv hZr hbT hC hT hbC hZ
  go_enter Try.func37, Try.ntmps37
  go_wp2_with fail
  obtain ⟨W0, hW0⟩ : ∃ W0, W0 = w.alloc (.cells #[.slice ca cn cc, .int .i64 due, .int .i64 delay] 27) := ⟨_, rfl⟩
  have hB0 : Below w.heap.size w W0 := by rw [hW0]; exact (Below.refl _ w).alloc (Nat.le_refl _) _
  have y0 : W0.cell? ⟨w.heap.size, 0, none⟩ = some (.slice ca cn cc) := by rw [hW0]; simp [go_sem]
  have y1 : W0.cell? ⟨w.heap.size, 1, none⟩ = some (.int .i64 due) := by rw [hW0]; simp [go_sem]
  have y2 : W0.cell? ⟨w.heap.size, 2, none⟩ = some (.int .i64 delay) := by rw [hW0]; simp [go_sem]
  rw [← hW0]
  clear hW0
  go_loopw [7] (fun i wr => ∃ p : Nat, (1 ≤ p ∧ p ≤ n + 1) ∧ i = .int .i64 (p : Int) ∧ Hid (∀ q, q < p - 1 → rotaOk due delay C T (Z.map Int.toNat) q = true) ∧ Below W0.heap.size W0 wr) (fun i _ => n + 1 - (intOf i).toNat)
  case atStart => exact ⟨1, by omega, rfl, fun _ h => by omega, Below.refl _ _⟩
  case round =>
    obtain ⟨p, ⟨hp1, hp2⟩, rfl, hq, hB⟩ := hrel
    obtain ⟨j, hj⟩ : ∃ j, p = j + 1 := ⟨p - 1, by omega⟩
    rw [show p - 1 = j by omega] at hq
    have HJ := hid hj
    have hBr := hB0.trans (hB.mono hB0.size)
    by_cases hlt : j < n
    · have v0 := cell_grown hB y0
      have v1 := cell_grown hB y1
      have v2 := cell_grown hB y2
      have gw := lt_of_cell v0
      have hpn : (p : Int) ≤ n := by omega
      have hzz : (p : Int) ≤ zc := by omega
      clear hj
      obtain ⟨bz, oz, rfl, -⟩ := hI j (by rw [HZ.out]; exact hlt)
      have hBd : Below wr.heap.size wr wr.drew := (Below.refl _ _).drew
      have hBrd := hBr.trans (hBd.mono hBr.size)
      go_wp2_with fail
      go_region_held3 (fun w' : World => w'.cell? ⟨w.heap.size, 0, none⟩ = some (.slice ca cn cc) ∧ w'.cell? ⟨w.heap.size, 1, none⟩ = some (.int .i64 due) ∧ w'.cell? ⟨w.heap.size, 2, none⟩ = some (.int .i64 delay)) (exact ⟨v0, v1, v2⟩) (first
        | (go_at_call 61; refine (mayR_any C T Z due delay j p cn cc n tc _ HJ.out ca ta _ _ HC.out hcn (hCr.grown hBrd) HBC.out HT.out hn (hST.grown hBrd) HBT.out hlt (by rw [HZ.out]; exact hlt) (hI.grown hBrd) (fun q hq => HZR.out q (by omega)) hdue hdl).mono ?_; rintro e w3 ⟨rfl, hb3⟩; have hB3 := hBd.trans (hb3.mono (Nat.le_refl _)); replace v0 := cell_grown hB3 v0; replace v1 := cell_grown hB3 v1; replace v2 := cell_grown hB3 v2))
      have hB4 := hB.trans (hB3.mono hB.size)
      have hBf := hBr.trans (hB3.mono hBr.size)
      cases hm : rotaOk due delay C T (Z.map Int.toNat) j
      · have hvf : v = false := by
          rw [← HV.out, List.all_eq_false]
          exact ⟨j, by simpa using hlt, by rw [hm]; simp⟩
        clear hm
        go_wp2
        go_ret
        exact ⟨by rw [hvf]; rfl, hBf⟩
      · have HM := hid hm
        clear hm
        go_wp2
        have hj := HJ.out
        go_roundw
        case rel => exact ⟨p + 1, by omega, by go_num, by rw [show p + 1 - 1 = j + 1 by omega]; exact upto hq.out HM.out, hB4⟩
        case measure => simp [intOf]; omega
    · have hvt : v = true := by
        rw [← HV.out, List.all_eq_true]
        exact fun q hq' => hq.out q (by have : q < n := by simpa using hq'
                                        omega)
      have hpn : ¬ (p : Int) ≤ n := by omega
      clear hj
      go_wp2
      go_ret
      exact ⟨by first | rfl | (rw [hvt]; rfl), hBr⟩

end Go.Proofs.Ytgapbaelifcifaa
