/- Tongue: the report that counts, step by step. -/
import Derived.Test.YtohahlnhbppnhaaBI
import Derived.Deep.CutRange
namespace Go.Proofs.Ytohahlnhbppnhaa
open Go.RowKit
set_option linter.unusedSimpArgs false
set_option linter.unusedVariables false

/-- Truths, as they lie in memory. -/
def BoolsAt (w : World) (a : Option Addr) (L : List Bool) : Prop :=
  ∀ i, i < L.length → ∃ b off, a = some ⟨b, off, none⟩ ∧ w.cell? ⟨b, off + i, none⟩ = some (.bool (L.getD i false))

theorem BoolsAt.grown {w w' : World} {a : Option Addr} {L : List Bool} (h : BoolsAt w a L) (hb : Below w.heap.size w w') : BoolsAt w' a L := fun i hi => by
  obtain ⟨b, off, ea, c⟩ := h i hi
  exact ⟨b, off, ea, cell_grown hb c⟩

/-- Does the left side of a step count? -/
def leftsM (lead : List Bool) (m : Nat × Nat × Nat × Nat) : Bool := decide (0 < m.2.2.1) && (decide (m.2.2.2 = 0) || lead.getD m.1 false)

def pieceM (lead : List Bool) (m : Nat × Nat × Nat × Nat) : List (Int × Int) := if leftsM lead m then partC 0 m.1 m.2.2.1 else partC 1 m.2.1 m.2.2.2

def countM (lead : List Bool) (ms : List (Nat × Nat × Nat × Nat)) (j : Nat) : List (Int × Int) := ((ms.take j).map (pieceM lead)).flatten

theorem countM_succ (lead : List Bool) (ms : List (Nat × Nat × Nat × Nat)) (j : Nat) (hj : j < ms.length) : countM lead ms (j + 1) = countM lead ms j ++ pieceM lead (ms.getD j default) := by
  unfold countM
  rw [List.take_add_one, List.getElem?_eq_getElem hj, List.map_append, List.flatten_append, List.getD_eq_getElem?_getD, List.getElem?_eq_getElem hj]
  simp

theorem owns_some {W : World} {B n rc : Nat} {e : TypeId} {r : Option Addr} {xs : List Value} (h : W.ownsRow B e 2 (.slice r n rc) n xs) (h0 : 0 < n) : ∃ g, r = some ⟨g, 0, none⟩ := by
  rcases h.2 with ⟨hv, hn⟩ | ⟨g, cap', cur, hv, _⟩
  · omega
  · simp only [Value.slice.injEq] at hv
    exact ⟨g, hv.1⟩

set_option maxRecDepth 100000 in
set_option maxHeartbeats 2000000 in
theorem counting_any (nl cl nr cr n b mc lc : Nat) (la ra ma ld : Option Addr) (lead : List Bool) (ms : List (Nat × Nat × Nat × Nat)) (w : World) (hnl : nl ≤ 1000) (hnr : nr ≤ 1000)
    (hm : ms.length = n) (hn : n ≤ 1000) (hf : Fits nl nr ms) (hM : MovesAt w ma la cl ra cr ms) (hlen : lead.length = nl) (hLd : BoolsAt w ld lead) :
    Calls Try.prog 67 #[.agg #[.slice la nl cl, .int .u8 0, .int .i64 0, .slice ra nr cr, .int .u8 1, .int .i64 0, .slice (some ⟨b, 0, none⟩) 3 3, .slice ma n mc], .slice ld nl lc] w fun e w' => ∃ r rc B, e = .returned (.slice r (countM lead ms n).length rc) ∧ w'.ownsRow B 68 2 (.slice r (countM lead ms n).length rc) (countM lead ms n).length (flatC (countM lead ms n)) ∧ (countM lead ms n).length ≤ 2 * n ∧ Below w.heap.size w w' := by
  obtain ⟨i0, hi0, hz0, hz1, hz2⟩ := info_parts Try.info68
  obtain ⟨W0, hW0⟩ : ∃ X, X = w.alloc (.cells #[.slice la nl cl, .int .u8 0, .int .i64 0, .slice ra nr cr, .int .u8 1, .int .i64 0, .slice (some ⟨b, 0, none⟩) 3 3, .slice ma n mc] 128) := ⟨_, rfl⟩
  have hB0 : Below w.heap.size w W0 := by rw [hW0]; exact below_alloc _ _
  have p7' : W0.cell? ⟨w.heap.size, 7, none⟩ = some (.slice ma n mc) := by rw [hW0]; simp [go_sem]
  replace hM := hM.grown hB0
  replace hLd := hLd.grown hB0
  have HSU : Hid (∀ j, j < n → countM lead ms (j + 1) = countM lead ms j ++ pieceM lead (ms.getD j default)) := hid (fun j hj => countM_succ lead ms j (by omega))
  have HM := hid hm
  have HLD := hid hlen
  have gp := lt_of_cell p7'
  clear hm hlen
  go_enter Try.func67, Try.ntmps67
  go_wp2_with fail
  rw [← hW0]
  clear hW0
  go_loopw [5, 7, 8, 12] (fun v _ _ i wr => ∃ j : Nat, j ≤ n ∧ i = .int .i64 j ∧ wr.ownsRow W0.heap.size 68 2 v (countM lead ms j).length (flatC (countM lead ms j)) ∧ (countM lead ms j).length ≤ 2 * j ∧ Below W0.heap.size W0 wr) (fun _ _ _ i _ => n - (intOf i).toNat)
  case atStart => exact ⟨0, Nat.zero_le _, rfl, World.ownsRow_nil _ _ _ _, Nat.le_refl _, Below.refl _ _⟩
  case round =>
    obtain ⟨j, hj, rfl, hown, hcl2, hB⟩ := hrel
    have p7 := cell_grown hB p7'
    have gq := lt_of_cell p7
    by_cases hlt : j < n
    · have hlt' : (j : Int) < n := by omega
      obtain ⟨eb, off, ea, hc⟩ := (hM.grown hB) j (by rw [HM.out]; exact hlt)
      subst ea
      obtain ⟨m, hm⟩ : ∃ m, ms.getD j default = m := ⟨_, rfl⟩
      obtain ⟨c0, c1, c2, c3, c4, c5, c6, c7⟩ := hc m hm
      have hmem : m ∈ ms := by
        rw [← hm, List.getD_eq_getElem?_getD, List.getElem?_eq_getElem (by rw [HM.out]; exact hlt)]
        exact List.getElem_mem _
      obtain ⟨f1, f2, f3, f4, f5⟩ := hf m hmem
      have hsu := HSU.out j hlt
      rw [hm] at hsu
      obtain ⟨i, k, x, y⟩ := m
      simp only at c0 c1 c2 c3 c4 c5 c6 c7 f1 f2 f3 f4 f5
      have hle : 0 < x → ∃ b o, ld = some ⟨b, o, none⟩ ∧ wr.cell? ⟨b, o + i, none⟩ = some (.bool (lead.getD i false)) := fun h => (hLd.grown hB) i (by rw [HLD.out]; omega)
      have hpe : pieceM lead (i, k, x, y) = if leftsM lead (i, k, x, y) then partC 0 i x else partC 1 k y := rfl
      have hlm : leftsM lead (i, k, x, y) = (decide (0 < x) && (decide (y = 0) || lead.getD i false)) := rfl
      rw [hpe, hlm] at hsu
      clear hmem hm hc hpe hlm
      have ge := lt_of_cell c0
      generalize subA la cl i 2 = sl at c2
      generalize subA ra cr k 2 = sr at c5
      generalize cl - i = xl at c2
      generalize cr - k = xr at c5
      have hsz := hB.size
      obtain ⟨dl, hdl⟩ : ∃ dl, (countM lead ms j).length = dl := ⟨_, rfl⟩
      rw [hdl] at hown hcl2
      have HDL := hid hdl
      have HS := hid hsu
      clear hdl hsu
      have hPL := fun W => pieces_any x xl i 0 sl W (by omega) (by omega)
      have hPR := fun W => pieces_any y xr k 1 sr W (by omega) (by omega)
      obtain ⟨va, vc, rfl⟩ := owns_shape hown
      go_upto_region 5 with fail
      obtain ⟨W1, hW1⟩ : ∃ X, X = wr.alloc (.cells #[.int .i64 (x : Int), .int .i64 (y : Int), .slice sl x xl, .int .u8 0, .int .i64 (i : Int), .slice sr y xr, .int .u8 1, .int .i64 (k : Int)] 155) := ⟨_, rfl⟩
      have hb1 : Below W0.heap.size wr W1 := by rw [hW1]; exact (Below.refl _ wr).alloc hsz _
      have hb1w : Below wr.heap.size wr W1 := by rw [hW1]; exact below_alloc _ _
      have hown1 := book_owns hown (grown_none (below_alloc wr (.cells #[.int .i64 (x : Int), .int .i64 (y : Int), .slice sl x xl, .int .u8 0, .int .i64 (i : Int), .slice sr y xr, .int .u8 1, .int .i64 (k : Int)] 155))) (fun r e => by cases e)
      rw [← hW1] at hown1
      have d0 : W1.cell? ⟨wr.heap.size, 0, none⟩ = some (.int .i64 (x : Int)) := by rw [hW1]; simp [go_sem]
      have d1 : W1.cell? ⟨wr.heap.size, 1, none⟩ = some (.int .i64 (y : Int)) := by rw [hW1]; simp [go_sem]
      have d2 : W1.cell? ⟨wr.heap.size, 2, none⟩ = some (.slice sl x xl) := by rw [hW1]; simp [go_sem]
      have d3 : W1.cell? ⟨wr.heap.size, 3, none⟩ = some (.int .u8 0) := by rw [hW1]; simp [go_sem]
      have d4 : W1.cell? ⟨wr.heap.size, 4, none⟩ = some (.int .i64 (i : Int)) := by rw [hW1]; simp [go_sem]
      have d5 : W1.cell? ⟨wr.heap.size, 5, none⟩ = some (.slice sr y xr) := by rw [hW1]; simp [go_sem]
      have d6 : W1.cell? ⟨wr.heap.size, 6, none⟩ = some (.int .u8 1) := by rw [hW1]; simp [go_sem]
      have d7 : W1.cell? ⟨wr.heap.size, 7, none⟩ = some (.int .i64 (k : Int)) := by rw [hW1]; simp [go_sem]
      have gd := lt_of_cell d2
      rw [← hW1]
      replace hle : 0 < x → ∃ b o, ld = some ⟨b, o, none⟩ ∧ W1.cell? ⟨b, o + i, none⟩ = some (.bool (lead.getD i false)) := fun h => by
        obtain ⟨c, o, e, hc⟩ := hle h
        exact ⟨c, o, e, cell_grown hb1w hc⟩
      clear hW1 c0 c1 c2 c3 c4 c5 c6 c7 hown hb1w
      have hs1 := hb1.size
      by_cases hx0 : x = 0
      · subst hx0
        have HNE : Hid (countM lead ms (j + 1) = countM lead ms j ++ partC 1 k y) := hid (by rw [HS.out]; simp [show ¬ (0 : Nat) < 0 by omega])
        go_wp2_with (first | (go_at_call 95; refine (hPR _).mono ?_; rintro e w2 ⟨r, rc, B, rfl, hBs, hro, hb2⟩; have hbT : Below W1.heap.size W1 w2 := (below_alloc W1 (.cells #[.slice sr y xr, .int .u8 1, .int .i64 (k : Int)] 116)).trans (hb2.mono (by simp)); have hown2 := book_owns hown1 (grown_none hbT) (fun r e => by cases e); obtain ⟨g, rfl⟩ := owns_some hro (by omega); have hcells := hro.cells (g := g) rfl; have hs2 := hbT.size) | (at_builtin; refine wpList_append_own_at _ rfl _ _ 62 rfl W0.heap.size 68 i0 (.agg #[.int .u8 0, .int .i64 0]) 2 16 Try.underlying62 hi0 hz0 hz1 hz2 rfl (by decide) _ _ _ rfl hown2 ⟨g, 0, none⟩ y rc (flatC (partC 1 k y)) rfl (by rw [flatC_length, partC_length]) hcells (flatC_one _) (by unfold maxLen; omega) (by omega) (by omega) ?_; intro v' w5 hown' hgrow hnil hloc; have hb5 : Below W0.heap.size w2 w5 := (Below.refl W0.heap.size w2).grown hgrow (by omega) (fun r e => (hown2.lt r e).1)))
        go_roundw
        case rel => exact ⟨j + 1, by omega, by go_num, by rw [HNE.out, List.length_append, HDL.out, partC_length, flatC_append]; exact hown', by rw [HNE.out, List.length_append, HDL.out, partC_length]; omega, hB.trans ((hb1.trans (hbT.mono (by omega))).trans hb5)⟩
        case measure => simp [intOf]; omega
      · have hxp : 0 < x := by omega
        by_cases hy0 : y = 0
        · subst hy0
          have hx1 : (0 : Int) < (x : Int) := by omega
          have HNE : Hid (countM lead ms (j + 1) = countM lead ms j ++ partC 0 i x) := hid (by rw [HS.out]; simp [hxp])
          go_wp2_with (first | (go_at_call 95; refine (hPL _).mono ?_; rintro e w2 ⟨r, rc, B, rfl, hBs, hro, hb2⟩; have hbT : Below W1.heap.size W1 w2 := (below_alloc W1 (.cells #[.slice sl x xl, .int .u8 0, .int .i64 (i : Int)] 116)).trans (hb2.mono (by simp)); have hown2 := book_owns hown1 (grown_none hbT) (fun r e => by cases e); obtain ⟨g, rfl⟩ := owns_some hro (by omega); have hcells := hro.cells (g := g) rfl; have hs2 := hbT.size) | (at_builtin; refine wpList_append_own_at _ rfl _ _ 62 rfl W0.heap.size 68 i0 (.agg #[.int .u8 0, .int .i64 0]) 2 16 Try.underlying62 hi0 hz0 hz1 hz2 rfl (by decide) _ _ _ rfl hown2 ⟨g, 0, none⟩ x rc (flatC (partC 0 i x)) rfl (by rw [flatC_length, partC_length]) hcells (flatC_one _) (by unfold maxLen; omega) (by omega) (by omega) ?_; intro v' w5 hown' hgrow hnil hloc; have hb5 : Below W0.heap.size w2 w5 := (Below.refl W0.heap.size w2).grown hgrow (by omega) (fun r e => (hown2.lt r e).1)))
          go_roundw
          case rel => exact ⟨j + 1, by omega, by go_num, by rw [HNE.out, List.length_append, HDL.out, partC_length, flatC_append]; exact hown', by rw [HNE.out, List.length_append, HDL.out, partC_length]; omega, hB.trans ((hb1.trans (hbT.mono (by omega))).trans hb5)⟩
          case measure => simp [intOf]; omega
        · have hyp : 0 < y := by omega
          obtain ⟨c, o, e, c9⟩ := hle hxp
          subst e
          have g9 := lt_of_cell c9
          cases hl : lead.getD i false with
          | true =>
            rw [hl] at c9
            have hx1 : (0 : Int) < (x : Int) := by omega
            have hy1 : ¬ (y : Int) = 0 := by omega
            have hi0' : (0 : Int) ≤ (i : Int) := by omega
            have hi1 : (i : Int) < (nl : Int) := by omega
            have HNE : Hid (countM lead ms (j + 1) = countM lead ms j ++ partC 0 i x) := hid (by rw [HS.out, hl]; simp [hxp])
            go_wp2_with (first | (go_at_call 95; refine (hPL _).mono ?_; rintro e w2 ⟨r, rc, B, rfl, hBs, hro, hb2⟩; have hbT : Below W1.heap.size W1 w2 := (below_alloc W1 (.cells #[.slice sl x xl, .int .u8 0, .int .i64 (i : Int)] 116)).trans (hb2.mono (by simp)); have hown2 := book_owns hown1 (grown_none hbT) (fun r e => by cases e); obtain ⟨g, rfl⟩ := owns_some hro (by omega); have hcells := hro.cells (g := g) rfl; have hs2 := hbT.size) | (at_builtin; refine wpList_append_own_at _ rfl _ _ 62 rfl W0.heap.size 68 i0 (.agg #[.int .u8 0, .int .i64 0]) 2 16 Try.underlying62 hi0 hz0 hz1 hz2 rfl (by decide) _ _ _ rfl hown2 ⟨g, 0, none⟩ x rc (flatC (partC 0 i x)) rfl (by rw [flatC_length, partC_length]) hcells (flatC_one _) (by unfold maxLen; omega) (by omega) (by omega) ?_; intro v' w5 hown' hgrow hnil hloc; have hb5 : Below W0.heap.size w2 w5 := (Below.refl W0.heap.size w2).grown hgrow (by omega) (fun r e => (hown2.lt r e).1)))
            go_roundw
            case rel => exact ⟨j + 1, by omega, by go_num, by rw [HNE.out, List.length_append, HDL.out, partC_length, flatC_append]; exact hown', by rw [HNE.out, List.length_append, HDL.out, partC_length]; omega, hB.trans ((hb1.trans (hbT.mono (by omega))).trans hb5)⟩
            case measure => simp [intOf]; omega
          | false =>
            rw [hl] at c9
            have hx1 : (0 : Int) < (x : Int) := by omega
            have hy1 : ¬ (y : Int) = 0 := by omega
            have hi0' : (0 : Int) ≤ (i : Int) := by omega
            have hi1 : (i : Int) < (nl : Int) := by omega
            have HNE : Hid (countM lead ms (j + 1) = countM lead ms j ++ partC 1 k y) := hid (by rw [HS.out, hl]; simp [hy0])
            go_wp2_with (first | (go_at_call 95; refine (hPR _).mono ?_; rintro e w2 ⟨r, rc, B, rfl, hBs, hro, hb2⟩; have hbT : Below W1.heap.size W1 w2 := (below_alloc W1 (.cells #[.slice sr y xr, .int .u8 1, .int .i64 (k : Int)] 116)).trans (hb2.mono (by simp)); have hown2 := book_owns hown1 (grown_none hbT) (fun r e => by cases e); obtain ⟨g, rfl⟩ := owns_some hro (by omega); have hcells := hro.cells (g := g) rfl; have hs2 := hbT.size) | (at_builtin; refine wpList_append_own_at _ rfl _ _ 62 rfl W0.heap.size 68 i0 (.agg #[.int .u8 0, .int .i64 0]) 2 16 Try.underlying62 hi0 hz0 hz1 hz2 rfl (by decide) _ _ _ rfl hown2 ⟨g, 0, none⟩ y rc (flatC (partC 1 k y)) rfl (by rw [flatC_length, partC_length]) hcells (flatC_one _) (by unfold maxLen; omega) (by omega) (by omega) ?_; intro v' w5 hown' hgrow hnil hloc; have hb5 : Below W0.heap.size w2 w5 := (Below.refl W0.heap.size w2).grown hgrow (by omega) (fun r e => (hown2.lt r e).1)))
            go_roundw
            case rel => exact ⟨j + 1, by omega, by go_num, by rw [HNE.out, List.length_append, HDL.out, partC_length, flatC_append]; exact hown', by rw [HNE.out, List.length_append, HDL.out, partC_length]; omega, hB.trans ((hb1.trans (hbT.mono (by omega))).trans hb5)⟩
            case measure => simp [intOf]; omega
    · have hjn : j = n := by omega
      subst hjn
      obtain ⟨va, vc, rfl⟩ := owns_shape hown
      go_wp2_with fail
      go_ret
      exact ⟨va, vc, W0.heap.size, rfl, hown, hcl2, hB0.trans (hB.mono hB0.size)⟩

end Go.Proofs.Ytohahlnhbppnhaa
