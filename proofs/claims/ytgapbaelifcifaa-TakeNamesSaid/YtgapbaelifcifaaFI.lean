/- Contracts of right and ProveRota. -/
import Derived.Test.YtgapbaelifcifaaFG
import Derived.Test.YtgapbaelifcifaaCB
namespace Go.Proofs.Ytgapbaelifcifaa
open Go.RowKit

/-- Are these reporters right for the takes from k on, as the reporters stand? -/
def rightM (p : How) : List Nat → Nat → List Nat → Bool
  | [], _, _ => true
  | r :: rs, k, H => p.may k r (decide (H.getD r 0 ≤ k)) && rightM p rs (k + 1) (H.set r (p.ag k r))

theorem right_path {p : How} : ∀ (rs : List Nat) (k : Nat) (H : List Nat), k + rs.length ≤ p.tn → (∀ r ∈ rs, r < p.cn) → (rightM p rs k H = true ↔ p.path rs k H) := by
  intro rs
  induction rs with
  | nil => intro k H _ _; simp [rightM, How.path]
  | cons r rs ih =>
    intro k H hk hr
    simp only [List.length_cons] at hk
    rw [rightM, How.path, Bool.and_eq_true, ih (k + 1) _ (by omega) (fun x hx => hr x (List.mem_cons_of_mem _ hx))]
    exact ⟨fun h => ⟨by omega, hr r List.mem_cons_self, h.1, h.2⟩, fun h => ⟨h.2.2.1, h.2.2.2⟩⟩

theorem right_drop {p : How} {R : List Nat} {k : Nat} {H : List Nat} (hk : k < R.length) : rightM p (R.drop k) k H = (p.may k (R.getD k 0) (decide (H.getD (R.getD k 0) 0 ≤ k)) && rightM p (R.drop (k + 1)) (k + 1) (H.set (R.getD k 0) (p.ag k (R.getD k 0)))) := by
  have hg : R.getD k 0 = R[k] := by rw [List.getD_eq_getElem?_getD, List.getElem?_eq_getElem hk, Option.getD_some]
  rw [List.drop_eq_getElem_cons hk, rightM, hg]

set_option maxRecDepth 100000 in
set_option maxHeartbeats 4000000 in
theorem right_any (C : List (Int × Int × Int)) (T : List (Int × Int)) (R : List Nat) (len long short due delay : Int) (pa ca ta a : Option Addr) (pn pc cn cc n tc cap : Nat) (w : World)
    (hs : SvOk ⟨len, long, short, due, delay, pa, ca, ta, pn, pc, cn, cc, n, tc⟩ C T w) (hR : R.length = n) (hI : Ints w a (R.map fun r : Nat => (r : Int))) (hr : ∀ j, j < n → R.getD j 0 < cn) :
    Calls Try.prog 63 #[.agg #[.int .i64 len, .slice pa pn pc, .int .i64 long, .int .i64 short, .slice ca cn cc, .int .i64 due, .int .i64 delay, .slice ta n tc], .slice a n cap] w fun e w' => e = .returned (.bool (rightM (howOf due delay C T) R 0 [0, 0, 0, 0, 0])) ∧ Below w.heap.size w w' := by
  have h40 := hs.t40
  have h5 := hs.c5
  simp only at h40 h5
  obtain ⟨z, hz⟩ : ∃ z, rightM (howOf due delay C T) R 0 [0, 0, 0, 0, 0] = z := ⟨_, rfl⟩
  rw [hz]
  have HL := hid hR
  have HRR := hid hr
  have HZ := hid hz
  clear hR hr hz
  go_enter Try.func63, Try.ntmps63
  go_wp2_with fail
  obtain ⟨W0, hW0⟩ : ∃ W0, W0 = (w.alloc (.cells #[.int .i64 len, .slice pa pn pc, .int .i64 long, .int .i64 short, .slice ca cn cc, .int .i64 due, .int .i64 delay, .slice ta n tc] 106)).alloc (.cells #[.int .i64 0, .int .i64 0, .int .i64 0, .int .i64 0, .int .i64 0] 130) := ⟨_, rfl⟩
  have hB0 : Below w.heap.size w W0 := by rw [hW0]; exact ((Below.refl _ w).alloc (Nat.le_refl _) _).alloc (by simp) _
  have z0 : W0.heap.size = w.heap.size + 2 := by rw [hW0]; simp
  have y0 : W0.cell? ⟨w.heap.size, 0, none⟩ = some (.int .i64 len) := by rw [hW0]; simp [go_sem]
  have y1 : W0.cell? ⟨w.heap.size, 1, none⟩ = some (.slice pa pn pc) := by rw [hW0]; simp [go_sem]
  have y2 : W0.cell? ⟨w.heap.size, 2, none⟩ = some (.int .i64 long) := by rw [hW0]; simp [go_sem]
  have y3 : W0.cell? ⟨w.heap.size, 3, none⟩ = some (.int .i64 short) := by rw [hW0]; simp [go_sem]
  have y4 : W0.cell? ⟨w.heap.size, 4, none⟩ = some (.slice ca cn cc) := by rw [hW0]; simp [go_sem]
  have y5 : W0.cell? ⟨w.heap.size, 5, none⟩ = some (.int .i64 due) := by rw [hW0]; simp [go_sem]
  have y6 : W0.cell? ⟨w.heap.size, 6, none⟩ = some (.int .i64 delay) := by rw [hW0]; simp [go_sem]
  have y7 : W0.cell? ⟨w.heap.size, 7, none⟩ = some (.slice ta n tc) := by rw [hW0]; simp [go_sem]
  have s0 : W0.cell? ⟨w.heap.size + 1, 0, none⟩ = some (.int .i64 ((0 : Nat) : Int)) := by rw [hW0]; simp [go_sem]
  have f0 : W0.frozen? ⟨w.heap.size + 1, 0, none⟩ = false := by rw [hW0]; simp [go_sem]
  have s1 : W0.cell? ⟨w.heap.size + 1, 1, none⟩ = some (.int .i64 ((0 : Nat) : Int)) := by rw [hW0]; simp [go_sem]
  have f1 : W0.frozen? ⟨w.heap.size + 1, 1, none⟩ = false := by rw [hW0]; simp [go_sem]
  have s2 : W0.cell? ⟨w.heap.size + 1, 2, none⟩ = some (.int .i64 ((0 : Nat) : Int)) := by rw [hW0]; simp [go_sem]
  have f2 : W0.frozen? ⟨w.heap.size + 1, 2, none⟩ = false := by rw [hW0]; simp [go_sem]
  have s3 : W0.cell? ⟨w.heap.size + 1, 3, none⟩ = some (.int .i64 ((0 : Nat) : Int)) := by rw [hW0]; simp [go_sem]
  have f3 : W0.frozen? ⟨w.heap.size + 1, 3, none⟩ = false := by rw [hW0]; simp [go_sem]
  have s4 : W0.cell? ⟨w.heap.size + 1, 4, none⟩ = some (.int .i64 ((0 : Nat) : Int)) := by rw [hW0]; simp [go_sem]
  have f4 : W0.frozen? ⟨w.heap.size + 1, 4, none⟩ = false := by rw [hW0]; simp [go_sem]
  rw [← hW0]
  clear hW0
  go_loopw [10] (fun i wr => ∃ k : Nat, k ≤ n ∧ i = .int .i64 k ∧ (∃ h0 h1 h2 h3 h4 : Nat, wr.cell? ⟨w.heap.size + 1, 0, none⟩ = some (.int .i64 (h0 : Int)) ∧ wr.cell? ⟨w.heap.size + 1, 1, none⟩ = some (.int .i64 (h1 : Int)) ∧ wr.cell? ⟨w.heap.size + 1, 2, none⟩ = some (.int .i64 (h2 : Int)) ∧ wr.cell? ⟨w.heap.size + 1, 3, none⟩ = some (.int .i64 (h3 : Int)) ∧ wr.cell? ⟨w.heap.size + 1, 4, none⟩ = some (.int .i64 (h4 : Int)) ∧ wr.frozen? ⟨w.heap.size + 1, 0, none⟩ = false ∧ wr.frozen? ⟨w.heap.size + 1, 1, none⟩ = false ∧ wr.frozen? ⟨w.heap.size + 1, 2, none⟩ = false ∧ wr.frozen? ⟨w.heap.size + 1, 3, none⟩ = false ∧ wr.frozen? ⟨w.heap.size + 1, 4, none⟩ = false ∧ Hid (rightM (howOf due delay C T) (R.drop k) k [h0, h1, h2, h3, h4] = z)) ∧ Below (w.heap.size + 1) W0 wr ∧ W0.heap.size ≤ wr.heap.size) (fun i _ => n - (intOf i).toNat)
  case atStart => exact ⟨0, Nat.zero_le _, rfl, ⟨0, 0, 0, 0, 0, s0, s1, s2, s3, s4, f0, f1, f2, f3, f4, by rw [List.drop_zero]; exact HZ.out⟩, Below.refl _ _, Nat.le_refl _⟩
  case round =>
    obtain ⟨k, hk, rfl, ⟨h0, h1, h2, h3, h4, c0, c1, c2, c3, c4, g0, g1, g2, g3, g4, hq⟩, hB, hzr⟩ := hrel
    have hBw := hB0.trans (hB.mono (by omega))
    have zr : w.heap.size + 2 ≤ wr.heap.size := by omega
    by_cases hlt : k < n
    · have hrc := HRR.out k hlt
      have hqd := hq.out
      rw [right_drop (by rw [HL.out]; exact hlt)] at hqd
      obtain ⟨ba, off, rfl, e1⟩ := hI k (by simp; rw [HL.out]; exact hlt)
      have hg : (R.map fun r : Nat => (r : Int)).getD k 0 = ((R.getD k 0 : Nat) : Int) := by
        have : k < R.length := by rw [HL.out]; exact hlt
        simp [List.getD_eq_getElem?_getD, List.getElem?_map, List.getElem?_eq_getElem this]
      rw [hg] at e1
      obtain ⟨r, hr⟩ : ∃ r, R.getD k 0 = r := ⟨_, rfl⟩
      rw [hr] at e1 hrc hqd
      clear hg hr hq
      replace e1 := cell_grown hBw e1
      have gb := lt_of_cell e1
      have hkk : (k : Int) < n := by omega
      have sOk := hs.grown hBw
      have x0 : wr.cell? ⟨w.heap.size, 0, none⟩ = some (.int .i64 len) := (hB.cell (p := ⟨w.heap.size, 0, none⟩) (by simp)).trans y0
      have x1 : wr.cell? ⟨w.heap.size, 1, none⟩ = some (.slice pa pn pc) := (hB.cell (p := ⟨w.heap.size, 1, none⟩) (by simp)).trans y1
      have x2 : wr.cell? ⟨w.heap.size, 2, none⟩ = some (.int .i64 long) := (hB.cell (p := ⟨w.heap.size, 2, none⟩) (by simp)).trans y2
      have x3 : wr.cell? ⟨w.heap.size, 3, none⟩ = some (.int .i64 short) := (hB.cell (p := ⟨w.heap.size, 3, none⟩) (by simp)).trans y3
      have x4 : wr.cell? ⟨w.heap.size, 4, none⟩ = some (.slice ca cn cc) := (hB.cell (p := ⟨w.heap.size, 4, none⟩) (by simp)).trans y4
      have x5 : wr.cell? ⟨w.heap.size, 5, none⟩ = some (.int .i64 due) := (hB.cell (p := ⟨w.heap.size, 5, none⟩) (by simp)).trans y5
      have x6 : wr.cell? ⟨w.heap.size, 6, none⟩ = some (.int .i64 delay) := (hB.cell (p := ⟨w.heap.size, 6, none⟩) (by simp)).trans y6
      have x7 : wr.cell? ⟨w.heap.size, 7, none⟩ = some (.slice ta n tc) := (hB.cell (p := ⟨w.heap.size, 7, none⟩) (by simp)).trans y7
      have HQ := hid hqd
      clear hqd
      go_wp2_with fail
      refine (mayHave_any _ C T h0 h1 h2 h3 h4 k r wr sOk hlt hrc).mono ?_
      obtain ⟨mb, hmb⟩ : ∃ b, mayM ⟨len, long, short, due, delay, pa, ca, ta, pn, pc, cn, cc, n, tc⟩ C T [h0, h1, h2, h3, h4] k r = b := ⟨_, rfl⟩
      have HMB : Hid ((howOf due delay C T).may k r (decide (([h0, h1, h2, h3, h4] : List Nat).getD r 0 ≤ k)) = mb) := hid hmb
      rw [hmb]
      clear hmb
      rintro e w2 ⟨rfl, hb2⟩
      have hB2 := hBw.trans (hb2.mono hBw.size)
      cases mb
      · have hzf : z = false := by rw [← HQ.out, HMB.out]; rfl
        go_wp2
        go_ret
        exact ⟨by rw [hzf]; rfl, hB2⟩
      · have HQ2 : Hid (rightM (howOf due delay C T) (R.drop (k + 1)) (k + 1) (([h0, h1, h2, h3, h4] : List Nat).set r ((howOf due delay C T).ag k r)) = z) := hid (by have := HQ.out; rwa [HMB.out, Bool.true_and] at this)
        clear HQ HMB
        replace x0 := cell_grown hb2 x0
        replace x1 := cell_grown hb2 x1
        replace x2 := cell_grown hb2 x2
        replace x3 := cell_grown hb2 x3
        replace x4 := cell_grown hb2 x4
        replace x5 := cell_grown hb2 x5
        replace x6 := cell_grown hb2 x6
        replace x7 := cell_grown hb2 x7
        go_wp2_with fail
        refine (again_any _ C T k r w2 (sOk.grown hb2) hlt hrc).mono ?_
        obtain ⟨ag, hag⟩ : ∃ b, againM ⟨len, long, short, due, delay, pa, ca, ta, pn, pc, cn, cc, n, tc⟩ C T k r = b := ⟨_, rfl⟩
        have HAG : Hid ((howOf due delay C T).ag k r = ag) := hid hag
        rw [hag]
        clear hag
        rw [HAG.out] at HQ2
        rintro e w3 ⟨rfl, hb3⟩
        have hb23 := hb2.trans (hb3.mono hb2.size)
        have hB3 : Below (w.heap.size + 1) W0 w3 := hB.trans (hb23.mono (by omega))
        have zr3 : W0.heap.size ≤ w3.heap.size := Nat.le_trans hzr hb23.size
        replace c0 := cell_grown hb23 c0
        replace g0 := (hb23.frozen (p := ⟨w.heap.size + 1, 0, none⟩) (by show w.heap.size + 1 < wr.heap.size; omega)).trans g0
        replace c1 := cell_grown hb23 c1
        replace g1 := (hb23.frozen (p := ⟨w.heap.size + 1, 1, none⟩) (by show w.heap.size + 1 < wr.heap.size; omega)).trans g1
        replace c2 := cell_grown hb23 c2
        replace g2 := (hb23.frozen (p := ⟨w.heap.size + 1, 2, none⟩) (by show w.heap.size + 1 < wr.heap.size; omega)).trans g2
        replace c3 := cell_grown hb23 c3
        replace g3 := (hb23.frozen (p := ⟨w.heap.size + 1, 3, none⟩) (by show w.heap.size + 1 < wr.heap.size; omega)).trans g3
        replace c4 := cell_grown hb23 c4
        replace g4 := (hb23.frozen (p := ⟨w.heap.size + 1, 4, none⟩) (by show w.heap.size + 1 < wr.heap.size; omega)).trans g4
        clear x0 x1 x2 x3 x4 x5 x6 x7 hb2 hb3 hb23 sOk hBw hB
        have hr5 : r = 0 ∨ r = 1 ∨ r = 2 ∨ r = 3 ∨ r = 4 := by omega
        rcases hr5 with rfl | rfl | rfl | rfl | rfl
        · have hQ3 : Hid (rightM (howOf due delay C T) (R.drop (k + 1)) (k + 1) [ag, h1, h2, h3, h4] = z) := hid HQ2.out
          clear HQ2
          go_wp2_with fail
          go_roundw
          case rel => exact ⟨k + 1, by omega, by go_num, ⟨ag, h1, h2, h3, h4, World.cell?_setCell_same _ _ _ c0, (World.cell?_setCell_other _ _ _ _ (by simp)).trans c1, (World.cell?_setCell_other _ _ _ _ (by simp)).trans c2, (World.cell?_setCell_other _ _ _ _ (by simp)).trans c3, (World.cell?_setCell_other _ _ _ _ (by simp)).trans c4, by simpa using g0, by simpa using g1, by simpa using g2, by simpa using g3, by simpa using g4, hQ3⟩, hB3.setCell (p := ⟨w.heap.size + 1, 0, none⟩) (by simp) _, by simpa using zr3⟩
          case measure => simp [intOf]; omega
        · have hQ3 : Hid (rightM (howOf due delay C T) (R.drop (k + 1)) (k + 1) [h0, ag, h2, h3, h4] = z) := hid HQ2.out
          clear HQ2
          go_wp2_with fail
          go_roundw
          case rel => exact ⟨k + 1, by omega, by go_num, ⟨h0, ag, h2, h3, h4, (World.cell?_setCell_other _ _ _ _ (by simp)).trans c0, World.cell?_setCell_same _ _ _ c1, (World.cell?_setCell_other _ _ _ _ (by simp)).trans c2, (World.cell?_setCell_other _ _ _ _ (by simp)).trans c3, (World.cell?_setCell_other _ _ _ _ (by simp)).trans c4, by simpa using g0, by simpa using g1, by simpa using g2, by simpa using g3, by simpa using g4, hQ3⟩, hB3.setCell (p := ⟨w.heap.size + 1, 1, none⟩) (by simp) _, by simpa using zr3⟩
          case measure => simp [intOf]; omega
        · have hQ3 : Hid (rightM (howOf due delay C T) (R.drop (k + 1)) (k + 1) [h0, h1, ag, h3, h4] = z) := hid HQ2.out
          clear HQ2
          go_wp2_with fail
          go_roundw
          case rel => exact ⟨k + 1, by omega, by go_num, ⟨h0, h1, ag, h3, h4, (World.cell?_setCell_other _ _ _ _ (by simp)).trans c0, (World.cell?_setCell_other _ _ _ _ (by simp)).trans c1, World.cell?_setCell_same _ _ _ c2, (World.cell?_setCell_other _ _ _ _ (by simp)).trans c3, (World.cell?_setCell_other _ _ _ _ (by simp)).trans c4, by simpa using g0, by simpa using g1, by simpa using g2, by simpa using g3, by simpa using g4, hQ3⟩, hB3.setCell (p := ⟨w.heap.size + 1, 2, none⟩) (by simp) _, by simpa using zr3⟩
          case measure => simp [intOf]; omega
        · have hQ3 : Hid (rightM (howOf due delay C T) (R.drop (k + 1)) (k + 1) [h0, h1, h2, ag, h4] = z) := hid HQ2.out
          clear HQ2
          go_wp2_with fail
          go_roundw
          case rel => exact ⟨k + 1, by omega, by go_num, ⟨h0, h1, h2, ag, h4, (World.cell?_setCell_other _ _ _ _ (by simp)).trans c0, (World.cell?_setCell_other _ _ _ _ (by simp)).trans c1, (World.cell?_setCell_other _ _ _ _ (by simp)).trans c2, World.cell?_setCell_same _ _ _ c3, (World.cell?_setCell_other _ _ _ _ (by simp)).trans c4, by simpa using g0, by simpa using g1, by simpa using g2, by simpa using g3, by simpa using g4, hQ3⟩, hB3.setCell (p := ⟨w.heap.size + 1, 3, none⟩) (by simp) _, by simpa using zr3⟩
          case measure => simp [intOf]; omega
        · have hQ3 : Hid (rightM (howOf due delay C T) (R.drop (k + 1)) (k + 1) [h0, h1, h2, h3, ag] = z) := hid HQ2.out
          clear HQ2
          go_wp2_with fail
          go_roundw
          case rel => exact ⟨k + 1, by omega, by go_num, ⟨h0, h1, h2, h3, ag, (World.cell?_setCell_other _ _ _ _ (by simp)).trans c0, (World.cell?_setCell_other _ _ _ _ (by simp)).trans c1, (World.cell?_setCell_other _ _ _ _ (by simp)).trans c2, (World.cell?_setCell_other _ _ _ _ (by simp)).trans c3, World.cell?_setCell_same _ _ _ c4, by simpa using g0, by simpa using g1, by simpa using g2, by simpa using g3, by simpa using g4, hQ3⟩, hB3.setCell (p := ⟨w.heap.size + 1, 4, none⟩) (by simp) _, by simpa using zr3⟩
          case measure => simp [intOf]; omega
    · have hzt : z = true := by rw [← hq.out, List.drop_eq_nil_of_le (by rw [HL.out]; omega)]; rfl
      go_wp2
      go_ret
      exact ⟨by rw [hzt]; rfl, hBw⟩

/-- Is a list a right rota, and all else valid? -/
def proveM (len long short due delay : Int) (L : List (Int × Int)) (C : List (Int × Int × Int)) (Z : List Int) : Bool :=
  decide (faultM len long short due delay L C = 0) && (staffsM C.length (takesOf len long short L).length Z && rightM (howOf due delay C (takesOf len long short L)) (Z.map Int.toNat) 0 [0, 0, 0, 0, 0])

theorem ints_nat {W : World} {a : Option Addr} {Z : List Int} {q cn : Nat} (h : Ints W a Z) (hs : staffsM cn q Z = true) : Ints W a ((Z.map Int.toNat).map fun r : Nat => (r : Int)) := by
  have : (Z.map Int.toNat).map (fun r : Nat => (r : Int)) = Z := by
    rw [List.map_map]
    conv => rhs; rw [← List.map_id Z]
    refine List.map_congr_left fun x hx => ?_
    obtain ⟨i, hi, rfl⟩ := List.mem_iff_getElem.1 hx
    have := ((staffs_at hs).2 i hi).1
    rw [List.getD_eq_getElem?_getD, List.getElem?_eq_getElem hi, Option.getD_some] at this
    simp
    omega
  rw [this]
  exact h

theorem toNat_lt {Z : List Int} {q cn : Nat} (hs : staffsM cn q Z = true) : ∀ j, j < q → (Z.map Int.toNat).getD j 0 < cn := by
  intro j hj
  obtain ⟨h1, h2⟩ := staffs_at hs
  have hjl : j < Z.length := by omega
  have := h2 j hjl
  rw [List.getD_eq_getElem?_getD, List.getElem?_eq_getElem hjl, Option.getD_some] at this
  rw [List.getD_eq_getElem?_getD, List.getElem?_map, List.getElem?_eq_getElem hjl]
  simp only [Option.map_some, Option.getD_some]
  omega

set_option maxRecDepth 100000 in
set_option maxHeartbeats 4000000 in
theorem prove_any (L : List (Int × Int)) (len long short due delay : Int) (C : List (Int × Int × Int)) (Z : List Int) (pn pc cn cc zn zc : Nat) (pa ca za : Option Addr) (w : World)
    (hL : L.length = pn) (hm : pn ≤ maxLen) (hS : Spans w pa L) (hC : C.length = cn) (hcn : cn ≤ maxLen) (hCr : Crew w ca C) (hZ : Z.length = zn) (hzn : zn ≤ maxLen) (hI : Ints w za Z) :
    Calls Try.prog 38 #[.agg #[.int .i64 len, .slice pa pn pc, .int .i64 long, .int .i64 short], .agg #[.slice ca cn cc, .int .i64 due, .int .i64 delay], .slice za zn zc] w fun e w' => e = .returned (.bool (proveM len long short due delay L C Z)) ∧ Below w.heap.size w w' := by
  obtain ⟨z, hz⟩ : ∃ z, proveM len long short due delay L C Z = z := ⟨_, rfl⟩
  rw [hz]
  have HV := hid hz
  have HL := hid hL
  have HC := hid hC
  have HZ := hid hZ
  clear hL hC hZ hz
  go_enter Try.func38, Try.ntmps38
  go_wp2_with fail
  obtain ⟨W0, hW0⟩ : ∃ W0, W0 = (w.alloc (.cells #[.int .i64 len, .slice pa pn pc, .int .i64 long, .int .i64 short] 34)).alloc (.cells #[.slice ca cn cc, .int .i64 due, .int .i64 delay] 39) := ⟨_, rfl⟩
  have hB0 : Below w.heap.size w W0 := by rw [hW0]; exact ((Below.refl _ w).alloc (Nat.le_refl _) _).alloc (by simp) _
  rw [← hW0]
  have s3 : W0.heap.size = w.heap.size + 2 := by rw [hW0]; simp
  clear hW0
  refine (serve_any L len long short due delay C pn pc cn cc pa ca _ HL.out hm (hS.grown hB0) HC.out hcn (hCr.grown hB0)).mono ?_
  intro e w' h
  rcases servePost_cases h with ⟨x, hx, hb, rfl, hwhy⟩ | ⟨ta, tc, tn, htn, h1, h2, h3, hb, rfl, hST⟩
  · have HF : Hid (z = false) := hid (by
      rw [serve_fault] at hwhy
      rw [← HV.out]
      unfold proveM
      rw [decide_eq_false (by omega)]
      rfl)
    clear h hwhy
    have hB1 := hB0.trans (hb.mono (by omega))
    unfold svZero
    rcases hx with rfl | rfl
    all_goals
      go_wp2
      go_ret
      exact ⟨by rw [HF.out]; rfl, hB1.alloc hB1.size _⟩
  · have hB1 := hB0.trans (hb.mono (by omega))
    have sOk := svOk_of (pa := pa) (pn := pn) (pc := pc) (cc := cc) (tc := tc) h1 htn h2 h3 HC.out (hCr.grown hB1) hST
    have hc5 := sOk.c5
    simp only at hc5
    have HF : Hid (z = (staffsM cn tn Z && rightM (howOf due delay C (takesOf len long short L)) (Z.map Int.toNat) 0 [0, 0, 0, 0, 0])) := hid (by
      rw [← HV.out]
      unfold proveM
      rw [decide_eq_true (fault_zero h1 (by omega) h3), HC.out, htn, Bool.true_and])
    obtain ⟨T, hTT⟩ : ∃ T, takesOf len long short L = T := ⟨_, rfl⟩
    rw [hTT] at sOk htn hST HF
    have HTN := hid htn
    have hI1 := hI.grown hB1
    have sz1 := hB1.size
    clear h h1 h3 htn hCr hS hb hB0 hST hTT hI
    go_wp2_with fail
    obtain ⟨W1, hW1⟩ : ∃ W1, W1 = w'.alloc (.cells #[.int .i64 len, .slice pa pn pc, .int .i64 long, .int .i64 short, .slice ca cn cc, .int .i64 due, .int .i64 delay, .slice ta tn tc] 106) := ⟨_, rfl⟩
    have hB2 : Below w'.heap.size w' W1 := by rw [hW1]; exact (Below.refl _ _).alloc (Nat.le_refl _) _
    have y0 : W1.cell? ⟨w'.heap.size, 0, none⟩ = some (.int .i64 len) := by rw [hW1]; simp [go_sem]
    have y1 : W1.cell? ⟨w'.heap.size, 1, none⟩ = some (.slice pa pn pc) := by rw [hW1]; simp [go_sem]
    have y2 : W1.cell? ⟨w'.heap.size, 2, none⟩ = some (.int .i64 long) := by rw [hW1]; simp [go_sem]
    have y3 : W1.cell? ⟨w'.heap.size, 3, none⟩ = some (.int .i64 short) := by rw [hW1]; simp [go_sem]
    have y4 : W1.cell? ⟨w'.heap.size, 4, none⟩ = some (.slice ca cn cc) := by rw [hW1]; simp [go_sem]
    have y5 : W1.cell? ⟨w'.heap.size, 5, none⟩ = some (.int .i64 due) := by rw [hW1]; simp [go_sem]
    have y6 : W1.cell? ⟨w'.heap.size, 6, none⟩ = some (.int .i64 delay) := by rw [hW1]; simp [go_sem]
    have y7 : W1.cell? ⟨w'.heap.size, 7, none⟩ = some (.slice ta tn tc) := by rw [hW1]; simp [go_sem]
    have zW : W1.heap.size = w'.heap.size + 1 := by rw [hW1]; simp
    rw [← hW1]
    clear hW1
    have hB3 := hB1.trans (hB2.mono sz1)
    refine (staffs_any Z len long short due delay pa ca ta za pn pc cn cc tn tc zn zc W1 HZ.out hzn (hI1.grown hB2) hc5 h2).mono ?_
    rintro e w2 ⟨rfl, hb2⟩
    have hB4 := hB3.trans (hb2.mono hB3.size)
    have hBt := hB2.trans (hb2.mono hB2.size)
    cases hst : staffsM cn tn Z
    · have HE : Hid (z = false) := hid (by rw [HF.out, hst]; rfl)
      clear hst
      go_wp2
      go_ret
      exact ⟨by rw [HE.out]; rfl, hB4⟩
    · have HST := hid hst
      have HF2 : Hid (z = rightM (howOf due delay C T) (Z.map Int.toNat) 0 [0, 0, 0, 0, 0]) := hid (by rw [HF.out, hst]; rfl)
      have hzt : zn = tn := by rw [← HZ.out]; exact (staffs_at hst).1
      clear hst
      replace y0 := cell_grown hb2 y0
      replace y1 := cell_grown hb2 y1
      replace y2 := cell_grown hb2 y2
      replace y3 := cell_grown hb2 y3
      replace y4 := cell_grown hb2 y4
      replace y5 := cell_grown hb2 y5
      replace y6 := cell_grown hb2 y6
      replace y7 := cell_grown hb2 y7
      subst hzt
      go_wp2_with fail
      refine (right_any C T (Z.map Int.toNat) len long short due delay pa ca ta za pn pc cn cc zn tc zc w2 (sOk.grown hBt) (by rw [List.length_map]; exact HZ.out) (ints_nat (hI1.grown hBt) HST.out) (toNat_lt HST.out)).mono ?_
      rw [← HF2.out]
      rintro e w3 ⟨rfl, hb3⟩
      go_wp2
      go_ret
      exact ⟨rfl, hB4.trans (hb3.mono hB4.size)⟩

end Go.Proofs.Ytgapbaelifcifaa
