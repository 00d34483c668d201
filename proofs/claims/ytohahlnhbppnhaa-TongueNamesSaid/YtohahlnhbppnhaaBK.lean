/- Tongue: sentences as pieces; the report that counts. Tongue: the report that counts, step by step. Tongue: the report that counts, where texts lie. -/
import Derived.Test.YtohahlnhbppnhaaAY
import Derived.Test.YtohahlnhbppnhaaAC
import Derived.Deep.CutRange
import Derived.Test.YtohahlnhbppnhaaAJ
namespace Go.Proofs.Ytohahlnhbppnhaa
open Go.RowKit
set_option linter.unusedSimpArgs false
set_option linter.unusedVariables false

theorem Try.info68 : (Try.prog.info? 68).map (fun i => (i.zero, i.size, i.bytes)) = some (some (.agg #[.int .u8 0, .int .i64 0]), 2, 16) := by kernel_rfl

/-- Pieces, as cells: the side, the sentence. -/
def flatC : List (Int × Int) → List Value
  | [] => []
  | p :: l => .int .u8 p.1 :: .int .i64 p.2 :: flatC l

theorem flatC_append (l m : List (Int × Int)) : flatC (l ++ m) = flatC l ++ flatC m := by
  induction l with
  | nil => rfl
  | cons x l ih => simp [flatC, ih]

theorem flatC_length (l : List (Int × Int)) : (flatC l).length = l.length * 2 := by
  induction l with
  | nil => rfl
  | cons x l ih => simp [flatC, ih]; omega

theorem flatC_get (l : List (Int × Int)) : ∀ i, i < l.length → (flatC l)[i * 2]? = some (.int .u8 (l.getD i (0, 0)).1) ∧ (flatC l)[i * 2 + 1]? = some (.int .i64 (l.getD i (0, 0)).2) := by
  induction l with
  | nil => intro i h; simp at h
  | cons x l ih =>
    intro i h
    cases i with
    | zero => simp [flatC]
    | succ i =>
      have := ih i (by simpa using h)
      rw [show (i + 1) * 2 = i * 2 + 2 by omega]
      simpa [flatC] using this

theorem flatC_one (l : List (Int × Int)) : ∀ u ∈ flatC l, u.oneCell' = true := by
  induction l with
  | nil => intro u hu; cases hu
  | cons x l ih =>
    intro u hu
    rcases List.mem_cons.1 hu with rfl | hu
    · rfl
    · rcases List.mem_cons.1 hu with rfl | hu
      · rfl
      · exact ih u hu

/-- So many pieces of a side, from a sentence on. -/
def partC (sd : Int) (i n : Nat) : List (Int × Int) := (List.range n).map fun j => (sd, ((i + j : Nat) : Int))

theorem partC_succ (sd : Int) (i n : Nat) : partC sd i (n + 1) = partC sd i n ++ [(sd, ((i + n : Nat) : Int))] := by
  unfold partC
  rw [List.range_succ]
  simp

theorem partC_length (sd : Int) (i n : Nat) : (partC sd i n).length = n := by simp [partC]

set_option maxRecDepth 100000 in
set_option maxHeartbeats 1000000 in
theorem pieces_any (n cap i : Nat) (sd : Int) (a : Option Addr) (w : World) (hn : n ≤ 1000) (hi : i ≤ 1000) :
    Calls Try.prog 95 #[.agg #[.slice a n cap, .int .u8 sd, .int .i64 (i : Int)]] w fun e w' => ∃ r rc B, e = .returned (.slice r n rc) ∧ w.heap.size ≤ B ∧ w'.ownsRow B 68 2 (.slice r n rc) n (flatC (partC sd i n)) ∧ Below w.heap.size w w' := by
  obtain ⟨i0, hi0, hz0, hz1, hz2⟩ := info_parts Try.info68
  obtain ⟨W0, hW0⟩ : ∃ X, X = w.alloc (.cells #[.slice a n cap, .int .u8 sd, .int .i64 (i : Int)] 116) := ⟨_, rfl⟩
  have hB0 : Below w.heap.size w W0 := by rw [hW0]; exact below_alloc _ _
  have p0' : W0.cell? ⟨w.heap.size, 0, none⟩ = some (.slice a n cap) := by rw [hW0]; simp [go_sem]
  have p1' : W0.cell? ⟨w.heap.size, 1, none⟩ = some (.int .u8 sd) := by rw [hW0]; simp [go_sem]
  have p2' : W0.cell? ⟨w.heap.size, 2, none⟩ = some (.int .i64 (i : Int)) := by rw [hW0]; simp [go_sem]
  have gp := lt_of_cell p0'
  have hend := fun W => end_any n cap i sd a W hn hi
  have HSU : Hid (∀ j, partC sd i (j + 1) = partC sd i j ++ [(sd, ((i + j : Nat) : Int))]) := hid (partC_succ sd i)
  go_enter Try.func95, Try.ntmps95
  go_wp2_with fail
  rw [← hW0]
  clear hW0
  go_loopw [3, 4] (fun v k wr => ∃ j : Nat, j ≤ n ∧ k = .int .i64 ((i + j : Nat) : Int) ∧ wr.ownsRow W0.heap.size 68 2 v j (flatC (partC sd i j)) ∧ Below W0.heap.size W0 wr) (fun _ k _ => i + n - (intOf k).toNat)
  case atStart => exact ⟨0, Nat.zero_le _, rfl, World.ownsRow_nil _ _ _ _, Below.refl _ _⟩
  case round =>
    obtain ⟨j, hj, rfl, hown, hB⟩ := hrel
    obtain ⟨va, vc, rfl⟩ := owns_shape hown
    have p0 := cell_grown hB p0'
    have p1 := cell_grown hB p1'
    have p2 := cell_grown hB p2'
    have gq := lt_of_cell p0
    have hsz := hB.size
    have hs0 := hB0.size
    obtain ⟨k, hk⟩ : ∃ k, i + j = k := ⟨_, rfl⟩
    simp only [hk]
    have hsu := HSU.out j
    rw [hk] at hsu
    have HV := hid hsu
    have HK := hid hk
    clear hsu
    by_cases hlt : j < n
    · have hlt' : (k : Int) < ((i + n : Nat) : Int) := by omega
      have hlt2 : k < i + n := by omega
      obtain ⟨en, hen⟩ : ∃ en, i + n = en := ⟨_, rfl⟩
      simp only [hen] at hend hlt' hlt2
      clear hk
      go_wp2_with (first | (go_at_call 114; refine (hend _).mono ?_; rintro e w2 ⟨rfl, hb2⟩; have hown2 := book_owns hown (grown_none hb2) (fun r e => by cases e); replace p1 := cell_grown hb2 p1; replace p2 := cell_grown hb2 p2; replace gq := lt_of_cell p1; have hs2 := hb2.size; have hown3 := book_owns hown2 (grown_none (below_alloc w2 (.cells #[.int .u8 sd, .int .i64 (k : Int)] 68))) (fun r e => by cases e)) | (at_builtin; refine wpList_append_own_at _ rfl _ _ 62 rfl W0.heap.size 68 i0 (.agg #[.int .u8 0, .int .i64 0]) 2 16 Try.underlying62 hi0 hz0 hz1 hz2 rfl (by decide) _ _ _ rfl hown3 ⟨w2.heap.size, 0, none⟩ 1 1 [.int .u8 sd, .int .i64 (k : Int)] rfl rfl (pair_new w2 _ _ 68) (by simp [Value.oneCell']) (by unfold maxLen; omega) (by omega) (by simp; omega) ?_; intro v' w5 hown' hgrow hnil hloc; have hb5 : Below W0.heap.size w2 w5 := (((Below.refl W0.heap.size w2).alloc (by omega) _).grown hgrow (by simp; omega) (fun r e => (hown2.lt r e).1))))
      go_roundw
      case rel => exact ⟨j + 1, by omega, by rw [show i + (j + 1) = k + 1 by have := HK.out; omega]; go_num, by rw [HV.out, flatC_append]; exact hown', hB.trans ((hb2.mono hsz).trans hb5)⟩
      case measure => have := HK.out; simp [intOf]; omega
    · have hjn : j = n := by omega
      have hlt' : ¬ (k : Int) < ((i + n : Nat) : Int) := by omega
      have hlt2 : ¬ k < i + n := by omega
      obtain ⟨en, hen⟩ : ∃ en, i + n = en := ⟨_, rfl⟩
      simp only [hen] at hend hlt' hlt2
      clear hk
      go_wp2_with (go_at_call 114; refine (hend _).mono ?_; rintro e w2 ⟨rfl, hb2⟩; have hown2 := book_owns hown (grown_none hb2) (fun r e => by cases e))
      go_ret
      exact ⟨va, vc, W0.heap.size, rfl, hs0, by rw [hjn] at hown2; exact hown2, hB0.trans ((hB.trans (hb2.mono hsz)).mono hs0)⟩

end Go.Proofs.Ytohahlnhbppnhaa

namespace Go.Proofs.Ytohahlnhbppnhaa
open Go.RowKit
set_option linter.unusedSimpArgs false
set_option linter.unusedVariables false

/-- Truths, as they lie in memory. -/
def BoolsAt (w : World) (a : Option Addr) (L : List Bool) : Prop :=
  ∀ i, i < L.length → ∃ b off, a = some ⟨b, off, none⟩ ∧ w.cell? ⟨b, off + i, none⟩ = some (.bool (L.getD i false))

theorem BoolsAt.grown {w w' : World} {a : Option Addr} {L : List Bool} (h : BoolsAt w a L) (hb : Below w.heap.size w w') : BoolsAt w' a L := fun i hi => by
  obtain ⟨b, off, ea, c⟩ := h i hi
  exact ⟨b, off, ea, cell_grown hb c⟩

/-- Does the left side of a step count? -/
def leftsM (lead : List Bool) (m : Nat × Nat × Nat × Nat) : Bool := decide (0 < m.2.2.1) && (decide (m.2.2.2 = 0) || lead.getD m.1 false)

def pieceM (lead : List Bool) (m : Nat × Nat × Nat × Nat) : List (Int × Int) := if leftsM lead m then partC 0 m.1 m.2.2.1 else partC 1 m.2.1 m.2.2.2

def countM (lead : List Bool) (ms : List (Nat × Nat × Nat × Nat)) (j : Nat) : List (Int × Int) := ((ms.take j).map (pieceM lead)).flatten

theorem countM_succ (lead : List Bool) (ms : List (Nat × Nat × Nat × Nat)) (j : Nat) (hj : j < ms.length) : countM lead ms (j + 1) = countM lead ms j ++ pieceM lead (ms.getD j default) := by
  unfold countM
  rw [List.take_add_one, List.getElem?_eq_getElem hj, List.map_append, List.flatten_append, List.getD_eq_getElem?_getD, List.getElem?_eq_getElem hj]
  simp

theorem owns_some {W : World} {B n rc : Nat} {e : TypeId} {r : Option Addr} {xs : List Value} (h : W.ownsRow B e 2 (.slice r n rc) n xs) (h0 : 0 < n) : ∃ g, r = some ⟨g, 0, none⟩ := by
  rcases h.2 with ⟨hv, hn⟩ | ⟨g, cap', cur, hv, _⟩
  · omega
  · simp only [Value.slice.injEq] at hv
    exact ⟨g, hv.1⟩

set_option maxRecDepth 100000 in
set_option maxHeartbeats 2000000 in
theorem counting_any (nl cl nr cr n b mc lc : Nat) (la ra ma ld : Option Addr) (lead : List Bool) (ms : List (Nat × Nat × Nat × Nat)) (w : World) (hnl : nl ≤ 1000) (hnr : nr ≤ 1000)
    (hm : ms.length = n) (hn : n ≤ 1000) (hf : Fits nl nr ms) (hM : MovesAt w ma la cl ra cr ms) (hlen : lead.length = nl) (hLd : BoolsAt w ld lead) :
    Calls Try.prog 67 #[.agg #[.slice la nl cl, .int .u8 0, .int .i64 0, .slice ra nr cr, .int .u8 1, .int .i64 0, .slice (some ⟨b, 0, none⟩) 3 3, .slice ma n mc], .slice ld nl lc] w fun e w' => ∃ r rc B, e = .returned (.slice r (countM lead ms n).length rc) ∧ w'.ownsRow B 68 2 (.slice r (countM lead ms n).length rc) (countM lead ms n).length (flatC (countM lead ms n)) ∧ (countM lead ms n).length ≤ 2 * n ∧ Below w.heap.size w w' := by
  obtain ⟨i0, hi0, hz0, hz1, hz2⟩ := info_parts Try.info68
  obtain ⟨W0, hW0⟩ : ∃ X, X = w.alloc (.cells #[.slice la nl cl, .int .u8 0, .int .i64 0, .slice ra nr cr, .int .u8 1, .int .i64 0, .slice (some ⟨b, 0, none⟩) 3 3, .slice ma n mc] 128) := ⟨_, rfl⟩
  have hB0 : Below w.heap.size w W0 := by rw [hW0]; exact below_alloc _ _
  have p7' : W0.cell? ⟨w.heap.size, 7, none⟩ = some (.slice ma n mc) := by rw [hW0]; simp [go_sem]
  replace hM := hM.grown hB0
  replace hLd := hLd.grown hB0
  have HSU : Hid (∀ j, j < n → countM lead ms (j + 1) = countM lead ms j ++ pieceM lead (ms.getD j default)) := hid (fun j hj => countM_succ lead ms j (by omega))
  have HM := hid hm
  have HLD := hid hlen
  have gp := lt_of_cell p7'
  clear hm hlen
  go_enter Try.func67, Try.ntmps67
  go_wp2_with fail
  rw [← hW0]
  clear hW0
  go_loopw [5, 7, 8, 12] (fun v _ _ i wr => ∃ j : Nat, j ≤ n ∧ i = .int .i64 j ∧ wr.ownsRow W0.heap.size 68 2 v (countM lead ms j).length (flatC (countM lead ms j)) ∧ (countM lead ms j).length ≤ 2 * j ∧ Below W0.heap.size W0 wr) (fun _ _ _ i _ => n - (intOf i).toNat)
  case atStart => exact ⟨0, Nat.zero_le _, rfl, World.ownsRow_nil _ _ _ _, Nat.le_refl _, Below.refl _ _⟩
  case round =>
    obtain ⟨j, hj, rfl, hown, hcl2, hB⟩ := hrel
    have p7 := cell_grown hB p7'
    have gq := lt_of_cell p7
    by_cases hlt : j < n
    · have hlt' : (j : Int) < n := by omega
      obtain ⟨eb, off, ea, hc⟩ := (hM.grown hB) j (by rw [HM.out]; exact hlt)
      subst ea
      obtain ⟨m, hm⟩ : ∃ m, ms.getD j default = m := ⟨_, rfl⟩
      obtain ⟨c0, c1, c2, c3, c4, c5, c6, c7⟩ := hc m hm
      have hmem : m ∈ ms := by
        rw [← hm, List.getD_eq_getElem?_getD, List.getElem?_eq_getElem (by rw [HM.out]; exact hlt)]
        exact List.getElem_mem _
      obtain ⟨f1, f2, f3, f4, f5⟩ := hf m hmem
      have hsu := HSU.out j hlt
      rw [hm] at hsu
      obtain ⟨i, k, x, y⟩ := m
      simp only at c0 c1 c2 c3 c4 c5 c6 c7 f1 f2 f3 f4 f5
      have hle : 0 < x → ∃ b o, ld = some ⟨b, o, none⟩ ∧ wr.cell? ⟨b, o + i, none⟩ = some (.bool (lead.getD i false)) := fun h => (hLd.grown hB) i (by rw [HLD.out]; omega)
      have hpe : pieceM lead (i, k, x, y) = if leftsM lead (i, k, x, y) then partC 0 i x else partC 1 k y := rfl
      have hlm : leftsM lead (i, k, x, y) = (decide (0 < x) && (decide (y = 0) || lead.getD i false)) := rfl
      rw [hpe, hlm] at hsu
      clear hmem hm hc hpe hlm
      have ge := lt_of_cell c0
      generalize subA la cl i 2 = sl at c2
      generalize subA ra cr k 2 = sr at c5
      generalize cl - i = xl at c2
      generalize cr - k = xr at c5
      have hsz := hB.size
      obtain ⟨dl, hdl⟩ : ∃ dl, (countM lead ms j).length = dl := ⟨_, rfl⟩
      rw [hdl] at hown hcl2
      have HDL := hid hdl
      have HS := hid hsu
      clear hdl hsu
      have hPL := fun W => pieces_any x xl i 0 sl W (by omega) (by omega)
      have hPR := fun W => pieces_any y xr k 1 sr W (by omega) (by omega)
      obtain ⟨va, vc, rfl⟩ := owns_shape hown
      go_upto_region 5 with fail
      obtain ⟨W1, hW1⟩ : ∃ X, X = wr.alloc (.cells #[.int .i64 (x : Int), .int .i64 (y : Int), .slice sl x xl, .int .u8 0, .int .i64 (i : Int), .slice sr y xr, .int .u8 1, .int .i64 (k : Int)] 155) := ⟨_, rfl⟩
      have hb1 : Below W0.heap.size wr W1 := by rw [hW1]; exact (Below.refl _ wr).alloc hsz _
      have hb1w : Below wr.heap.size wr W1 := by rw [hW1]; exact below_alloc _ _
      have hown1 := book_owns hown (grown_none (below_alloc wr (.cells #[.int .i64 (x : Int), .int .i64 (y : Int), .slice sl x xl, .int .u8 0, .int .i64 (i : Int), .slice sr y xr, .int .u8 1, .int .i64 (k : Int)] 155))) (fun r e => by cases e)
      rw [← hW1] at hown1
      have d0 : W1.cell? ⟨wr.heap.size, 0, none⟩ = some (.int .i64 (x : Int)) := by rw [hW1]; simp [go_sem]
      have d1 : W1.cell? ⟨wr.heap.size, 1, none⟩ = some (.int .i64 (y : Int)) := by rw [hW1]; simp [go_sem]
      have d2 : W1.cell? ⟨wr.heap.size, 2, none⟩ = some (.slice sl x xl) := by rw [hW1]; simp [go_sem]
      have d3 : W1.cell? ⟨wr.heap.size, 3, none⟩ = some (.int .u8 0) := by rw [hW1]; simp [go_sem]
      have d4 : W1.cell? ⟨wr.heap.size, 4, none⟩ = some (.int .i64 (i : Int)) := by rw [hW1]; simp [go_sem]
      have d5 : W1.cell? ⟨wr.heap.size, 5, none⟩ = some (.slice sr y xr) := by rw [hW1]; simp [go_sem]
      have d6 : W1.cell? ⟨wr.heap.size, 6, none⟩ = some (.int .u8 1) := by rw [hW1]; simp [go_sem]
      have d7 : W1.cell? ⟨wr.heap.size, 7, none⟩ = some (.int .i64 (k : Int)) := by rw [hW1]; simp [go_sem]
      have gd := lt_of_cell d2
      rw [← hW1]
      replace hle : 0 < x → ∃ b o, ld = some ⟨b, o, none⟩ ∧ W1.cell? ⟨b, o + i, none⟩ = some (.bool (lead.getD i false)) := fun h => by
        obtain ⟨c, o, e, hc⟩ := hle h
        exact ⟨c, o, e, cell_grown hb1w hc⟩
      clear hW1 c0 c1 c2 c3 c4 c5 c6 c7 hown hb1w
      have hs1 := hb1.size
      by_cases hx0 : x = 0
      · subst hx0
        have HNE : Hid (countM lead ms (j + 1) = countM lead ms j ++ partC 1 k y) := hid (by rw [HS.out]; simp [show ¬ (0 : Nat) < 0 by omega])
        go_wp2_with (first | (go_at_call 95; refine (hPR _).mono ?_; rintro e w2 ⟨r, rc, B, rfl, hBs, hro, hb2⟩; have hbT : Below W1.heap.size W1 w2 := (below_alloc W1 (.cells #[.slice sr y xr, .int .u8 1, .int .i64 (k : Int)] 116)).trans (hb2.mono (by simp)); have hown2 := book_owns hown1 (grown_none hbT) (fun r e => by cases e); obtain ⟨g, rfl⟩ := owns_some hro (by omega); have hcells := hro.cells (g := g) rfl; have hs2 := hbT.size) | (at_builtin; refine wpList_append_own_at _ rfl _ _ 62 rfl W0.heap.size 68 i0 (.agg #[.int .u8 0, .int .i64 0]) 2 16 Try.underlying62 hi0 hz0 hz1 hz2 rfl (by decide) _ _ _ rfl hown2 ⟨g, 0, none⟩ y rc (flatC (partC 1 k y)) rfl (by rw [flatC_length, partC_length]) hcells (flatC_one _) (by unfold maxLen; omega) (by omega) (by omega) ?_; intro v' w5 hown' hgrow hnil hloc; have hb5 : Below W0.heap.size w2 w5 := (Below.refl W0.heap.size w2).grown hgrow (by omega) (fun r e => (hown2.lt r e).1)))
        go_roundw
        case rel => exact ⟨j + 1, by omega, by go_num, by rw [HNE.out, List.length_append, HDL.out, partC_length, flatC_append]; exact hown', by rw [HNE.out, List.length_append, HDL.out, partC_length]; omega, hB.trans ((hb1.trans (hbT.mono (by omega))).trans hb5)⟩
        case measure => simp [intOf]; omega
      · have hxp : 0 < x := by omega
        by_cases hy0 : y = 0
        · subst hy0
          have hx1 : (0 : Int) < (x : Int) := by omega
          have HNE : Hid (countM lead ms (j + 1) = countM lead ms j ++ partC 0 i x) := hid (by rw [HS.out]; simp [hxp])
          go_wp2_with (first | (go_at_call 95; refine (hPL _).mono ?_; rintro e w2 ⟨r, rc, B, rfl, hBs, hro, hb2⟩; have hbT : Below W1.heap.size W1 w2 := (below_alloc W1 (.cells #[.slice sl x xl, .int .u8 0, .int .i64 (i : Int)] 116)).trans (hb2.mono (by simp)); have hown2 := book_owns hown1 (grown_none hbT) (fun r e => by cases e); obtain ⟨g, rfl⟩ := owns_some hro (by omega); have hcells := hro.cells (g := g) rfl; have hs2 := hbT.size) | (at_builtin; refine wpList_append_own_at _ rfl _ _ 62 rfl W0.heap.size 68 i0 (.agg #[.int .u8 0, .int .i64 0]) 2 16 Try.underlying62 hi0 hz0 hz1 hz2 rfl (by decide) _ _ _ rfl hown2 ⟨g, 0, none⟩ x rc (flatC (partC 0 i x)) rfl (by rw [flatC_length, partC_length]) hcells (flatC_one _) (by unfold maxLen; omega) (by omega) (by omega) ?_; intro v' w5 hown' hgrow hnil hloc; have hb5 : Below W0.heap.size w2 w5 := (Below.refl W0.heap.size w2).grown hgrow (by omega) (fun r e => (hown2.lt r e).1)))
          go_roundw
          case rel => exact ⟨j + 1, by omega, by go_num, by rw [HNE.out, List.length_append, HDL.out, partC_length, flatC_append]; exact hown', by rw [HNE.out, List.length_append, HDL.out, partC_length]; omega, hB.trans ((hb1.trans (hbT.mono (by omega))).trans hb5)⟩
          case measure => simp [intOf]; omega
        · have hyp : 0 < y := by omega
          obtain ⟨c, o, e, c9⟩ := hle hxp
          subst e
          have g9 := lt_of_cell c9
          cases hl : lead.getD i false with
          | true =>
            rw [hl] at c9
            have hx1 : (0 : Int) < (x : Int) := by omega
            have hy1 : ¬ (y : Int) = 0 := by omega
            have hi0' : (0 : Int) ≤ (i : Int) := by omega
            have hi1 : (i : Int) < (nl : Int) := by omega
            have HNE : Hid (countM lead ms (j + 1) = countM lead ms j ++ partC 0 i x) := hid (by rw [HS.out, hl]; simp [hxp])
            go_wp2_with (first | (go_at_call 95; refine (hPL _).mono ?_; rintro e w2 ⟨r, rc, B, rfl, hBs, hro, hb2⟩; have hbT : Below W1.heap.size W1 w2 := (below_alloc W1 (.cells #[.slice sl x xl, .int .u8 0, .int .i64 (i : Int)] 116)).trans (hb2.mono (by simp)); have hown2 := book_owns hown1 (grown_none hbT) (fun r e => by cases e); obtain ⟨g, rfl⟩ := owns_some hro (by omega); have hcells := hro.cells (g := g) rfl; have hs2 := hbT.size) | (at_builtin; refine wpList_append_own_at _ rfl _ _ 62 rfl W0.heap.size 68 i0 (.agg #[.int .u8 0, .int .i64 0]) 2 16 Try.underlying62 hi0 hz0 hz1 hz2 rfl (by decide) _ _ _ rfl hown2 ⟨g, 0, none⟩ x rc (flatC (partC 0 i x)) rfl (by rw [flatC_length, partC_length]) hcells (flatC_one _) (by unfold maxLen; omega) (by omega) (by omega) ?_; intro v' w5 hown' hgrow hnil hloc; have hb5 : Below W0.heap.size w2 w5 := (Below.refl W0.heap.size w2).grown hgrow (by omega) (fun r e => (hown2.lt r e).1)))
            go_roundw
            case rel => exact ⟨j + 1, by omega, by go_num, by rw [HNE.out, List.length_append, HDL.out, partC_length, flatC_append]; exact hown', by rw [HNE.out, List.length_append, HDL.out, partC_length]; omega, hB.trans ((hb1.trans (hbT.mono (by omega))).trans hb5)⟩
            case measure => simp [intOf]; omega
          | false =>
            rw [hl] at c9
            have hx1 : (0 : Int) < (x : Int) := by omega
            have hy1 : ¬ (y : Int) = 0 := by omega
            have hi0' : (0 : Int) ≤ (i : Int) := by omega
            have hi1 : (i : Int) < (nl : Int) := by omega
            have HNE : Hid (countM lead ms (j + 1) = countM lead ms j ++ partC 1 k y) := hid (by rw [HS.out, hl]; simp [hy0])
            go_wp2_with (first | (go_at_call 95; refine (hPR _).mono ?_; rintro e w2 ⟨r, rc, B, rfl, hBs, hro, hb2⟩; have hbT : Below W1.heap.size W1 w2 := (below_alloc W1 (.cells #[.slice sr y xr, .int .u8 1, .int .i64 (k : Int)] 116)).trans (hb2.mono (by simp)); have hown2 := book_owns hown1 (grown_none hbT) (fun r e => by cases e); obtain ⟨g, rfl⟩ := owns_some hro (by omega); have hcells := hro.cells (g := g) rfl; have hs2 := hbT.size) | (at_builtin; refine wpList_append_own_at _ rfl _ _ 62 rfl W0.heap.size 68 i0 (.agg #[.int .u8 0, .int .i64 0]) 2 16 Try.underlying62 hi0 hz0 hz1 hz2 rfl (by decide) _ _ _ rfl hown2 ⟨g, 0, none⟩ y rc (flatC (partC 1 k y)) rfl (by rw [flatC_length, partC_length]) hcells (flatC_one _) (by unfold maxLen; omega) (by omega) (by omega) ?_; intro v' w5 hown' hgrow hnil hloc; have hb5 : Below W0.heap.size w2 w5 := (Below.refl W0.heap.size w2).grown hgrow (by omega) (fun r e => (hown2.lt r e).1)))
            go_roundw
            case rel => exact ⟨j + 1, by omega, by go_num, by rw [HNE.out, List.length_append, HDL.out, partC_length, flatC_append]; exact hown', by rw [HNE.out, List.length_append, HDL.out, partC_length]; omega, hB.trans ((hb1.trans (hbT.mono (by omega))).trans hb5)⟩
            case measure => simp [intOf]; omega
    · have hjn : j = n := by omega
      subst hjn
      obtain ⟨va, vc, rfl⟩ := owns_shape hown
      go_wp2_with fail
      go_ret
      exact ⟨va, vc, W0.heap.size, rfl, hown, hcl2, hB0.trans (hB.mono hB0.size)⟩

end Go.Proofs.Ytohahlnhbppnhaa

namespace Go.Proofs.Ytohahlnhbppnhaa
open Go.RowKit
set_option linter.unusedSimpArgs false
set_option linter.unusedVariables false

/-- Pieces, as they lie in memory. -/
def PiecesAt (w : World) (a : Option Addr) (l : List (Int × Int)) : Prop :=
  ∀ i, i < l.length → ∃ b off, a = some ⟨b, off, none⟩ ∧ w.cell? ⟨b, off + i * 2, none⟩ = some (.int .u8 (l.getD i (0, 0)).1) ∧ w.cell? ⟨b, off + i * 2 + 1, none⟩ = some (.int .i64 (l.getD i (0, 0)).2)

theorem PiecesAt.grown {w w' : World} {a : Option Addr} {l : List (Int × Int)} (h : PiecesAt w a l) (hb : Below w.heap.size w w') : PiecesAt w' a l := fun i hi => by
  obtain ⟨b, off, ea, c0, c1⟩ := h i hi
  exact ⟨b, off, ea, cell_grown hb c0, cell_grown hb c1⟩

theorem pieces_of_owns {W : World} {B : Nat} {a : Option Addr} {cap : Nat} {l : List (Int × Int)} (h : W.ownsRow B 68 2 (.slice a l.length cap) l.length (flatC l)) : PiecesAt W a l := by
  intro i hi
  rcases h.2 with ⟨hv, h0⟩ | ⟨g, cap', cur, hv, _⟩
  · omega
  · simp only [Value.slice.injEq] at hv
    obtain ⟨rfl, -, rfl⟩ := hv
    have hc := h.cells (g := g) rfl
    obtain ⟨e0, e1⟩ := flatC_get l i hi
    have c0 := hc _ _ e0
    have c1 := hc _ _ e1
    rw [add_plain] at c0 c1
    exact ⟨g, 0, rfl, c0, by rw [Nat.add_assoc]; exact c1⟩

def CountsPost (L R : List Sen) (l : List (Int × Int)) (lead : List Bool) (w : World) (e : Ending) (w' : World) : Prop :=
  Below w.heap.size w w' ∧ ((faultM L R ≠ 0 ∧ e = .returned (.tuple #[.slice none 0 0, .int .i64 (faultM L R)])) ∨
    (faultM L R = 0 ∧ matchM L.length R.length l = none ∧ e = .returned (.tuple #[.slice none 0 0, .int .i64 9])) ∨
    (faultM L R = 0 ∧ (∃ ms, matchM L.length R.length l = some ms) ∧ lead.length ≠ L.length ∧ e = .returned (.tuple #[.slice none 0 0, .int .i64 2])) ∨
    (faultM L R = 0 ∧ lead.length = L.length ∧ ∃ ms a cap, matchM L.length R.length l = some ms ∧ e = .returned (.tuple #[.slice a (countM lead ms ms.length).length cap, .int .i64 0]) ∧ PiecesAt w' a (countM lead ms ms.length) ∧ (countM lead ms ms.length).length ≤ 2 * ms.length))

set_option maxHeartbeats 1000000 in
theorem countsOf_any (L R : List Sen) (nl cl nr cr : Nat) (la ra : Option Addr) (w : World) (hL : L.length = nl) (hR : R.length = nr) (sL : Small L) (sR : Small R) (hS : TextAt w la L) (hT : TextAt w ra R) (hcl : nl ≤ cl) (hcr : nr ≤ cr) (l : List (Int × Int)) (n sc : Nat) (sa : Option Addr) (hl : l.length = n) (hn : n ≤ 1000) (hP : PairsAt w sa l)
    (lead : List Bool) (ln lc : Nat) (ld : Option Addr) (hln : lead.length = ln) (hln2 : ln ≤ 9223372036854775807) (hLd : BoolsAt w ld lead) :
    Calls Try.prog 36 #[.slice la nl cl, .slice ra nr cr, .slice sa n sc, .slice ld ln lc] w (CountsPost L R l lead w) := by
  have hmo := matchOf_any L R nl cl nr cr la ra w hL hR sL sR hS hT hcl hcr l n sc sa hl hn hP
  unfold CountsPost
  rw [hL, hR, hln]
  go_enter Try.func36, Try.ntmps36
  go_wp2_with (go_at_call 58; refine hmo.mono ?_; clear hmo; rintro e w1 ⟨hb1, ⟨hne, rfl⟩ | ⟨hz, hmm, rfl⟩ | ⟨hz, ms, b, b0, b2, ma, mc, hmm, rfl, hch, hmv⟩⟩)
  · have h0' : ((faultM L R : Int) != 0) = true := by simp [hne]
    generalize faultM L R = z at hne h0' ⊢
    go_wp2_with fail
    exact bodyPost_ret (v := .tuple #[.slice none 0 0, .int .i64 z]) (by simp [results, Try.f36, go_sem]) rfl ⟨hb1.alloc hb1.size _, .inl ⟨hne, rfl⟩⟩
  · go_wp2_with fail
    exact bodyPost_ret (v := .tuple #[.slice none 0 0, .int .i64 9]) (by simp [results, Try.f36, go_sem]) rfl ⟨hb1.alloc hb1.size _, .inr (.inl ⟨hz, hmm, rfl⟩)⟩
  · rename_i hx
    have hll : ¬ ln = nl := fun h => by subst h; simp at hx
    have HMM := hid hmm
    clear hmm hch hmv hS hT hP sL sR hLd
    exact bodyPost_ret (v := .tuple #[.slice none 0 0, .int .i64 2]) (by simp [results, Try.f36, go_sem]) rfl ⟨hb1.alloc hb1.size _, .inr (.inr (.inl ⟨hz, ⟨ms, HMM.out⟩, hll, rfl⟩))⟩
  · rename_i hx K6 hK6
    have hxx : ((ln : Int) != (nl : Int)) = false := by assumption
    have hll : ln = nl := by
      have h : (ln : Int) = (nl : Int) := by simpa using hxx
      omega
    have hfc := match_fits hmm
    have HMM := hid hmm
    obtain ⟨l1, l2, v1, v2⟩ := fault_zero hz
    have fL := fine_of L l1 v1
    have fR := fine_of R l2 v2
    subst hll
    have hco := fun W hbW => counting_any ln cl nr cr ms.length b mc lc la ra ma ld lead ms W (by omega) (by omega) rfl (by rw [hfc.1, hl]; exact hn) hfc.2 (hmv.grown hbW) (by omega) (hLd.grown (below_then hb1 hbW))
    clear hmm hfc l1 l2 v1 v2 hch hmv hS hT hP sL sR fL fR hLd hxx
    refine (hco _ (below_alloc _ _)).mono ?_
    rintro e w2 ⟨a, cap, B, rfl, hO, hle, hb2⟩
    go_wp2_with fail
    exact bodyPost_ret (v := .tuple #[.slice a (countM lead ms ms.length).length cap, .int .i64 0]) (by simp [results, Try.f36, go_sem]) rfl ⟨below_then hb1 (below_then (below_alloc _ _) hb2), .inr ⟨ms, HMM.out, a, ⟨cap, rfl⟩, pieces_of_owns hO, hle⟩⟩

end Go.Proofs.Ytohahlnhbppnhaa
