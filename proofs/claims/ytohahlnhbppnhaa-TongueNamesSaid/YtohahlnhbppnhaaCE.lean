/- Tongue: a text read backwards, as it is returned. -/
import Derived.Test.YtohahlnhbppnhaaBY
namespace Go.Proofs.Ytohahlnhbppnhaa
open Go.RowKit
set_option linter.unusedSimpArgs false
set_option linter.unusedVariables false

def set3 (X : World) (b : Nat) (v0 v1 v2 : Value) : World := ((X.setCell ⟨b, 0, none⟩ v0).setCell ⟨b, 1, none⟩ v1).setCell ⟨b, 2, none⟩ v2

theorem set3_cell {X : World} {b g o : Nat} {v0 v1 v2 u : Value} (h : g ≠ b) (hc : X.cell? ⟨g, o, none⟩ = some u) : (set3 X b v0 v1 v2).cell? ⟨g, o, none⟩ = some u := by
  unfold set3
  rw [World.cell?_setCell_other _ _ _ _ (by simp [h]), World.cell?_setCell_other _ _ _ _ (by simp [h]), World.cell?_setCell_other _ _ _ _ (by simp [h])]
  exact hc

set_option maxRecDepth 100000 in
set_option maxHeartbeats 1000000 in
theorem backwards_any (T : List Sen) (n cap : Nat) (s f : Int) (a : Option Addr) (w : World) (hT : T.length = n) (hn : n ≤ 1000) (hS : TextAt w a T) :
    Calls Try.prog 88 #[.agg #[.slice a n cap, .int .u8 s, .int .i64 f]] w fun e w' => ∃ b c, e = .returned (.agg #[.slice b n c, .int .u8 s, .int .i64 f]) ∧ TextAt w' b T.reverse ∧ n ≤ c ∧ Below w.heap.size w w' := by
  have hcl := fun W (hb : Below w.heap.size w W) => clone_text T n cap a w W hT hn hS hb
  obtain ⟨W0, hW0⟩ : ∃ X, X = (w.alloc (.cells #[.slice a n cap, .int .u8 s, .int .i64 f] 116)).alloc (.cells #[.slice none 0 0, .int .u8 0, .int .i64 0] 116) := ⟨_, rfl⟩
  have hb0 : Below w.heap.size w W0 := by rw [hW0]; exact (below_alloc _ _).alloc (by simp) _
  have hz0 : W0.heap.size = w.heap.size + 2 := by rw [hW0]; simp
  have p0 : W0.cell? ⟨w.heap.size, 0, none⟩ = some (.slice a n cap) := by rw [hW0]; simp [go_sem]
  have p1 : W0.cell? ⟨w.heap.size, 1, none⟩ = some (.int .u8 s) := by rw [hW0]; simp [go_sem]
  have p2 : W0.cell? ⟨w.heap.size, 2, none⟩ = some (.int .i64 f) := by rw [hW0]; simp [go_sem]
  have hrow : W0.rowIs (w.heap.size + 1) 116 3 (fun i => if i = 0 then .slice none 0 0 else if i = 1 then .int .u8 0 else .int .i64 0) := by
    rw [hW0]
    have h := World.rowIs_alloc (w.alloc (.cells #[.slice a n cap, .int .u8 s, .int .i64 f] 116)) #[.slice none 0 0, .int .u8 0, .int .i64 0] 116 (fun i => if i = 0 then .slice none 0 0 else if i = 1 then .int .u8 0 else .int .i64 0) (fun i hi => by
      have h : i < 3 := hi
      iterate 3 (rcases i with _ | i; · rfl)
      omega)
    simpa using h
  have HW0 := hid hW0
  have HZ := hid hz0
  have HT := hid hT
  clear hT hS hz0
  go_enter Try.func88, Try.ntmps88
  go_upto_region 1 with (fail)
  rw [← HW0.out]
  clear hW0
  go_upto_region 2 with (first | (go_at_call 117; refine (hcl _ hb0).mono ?_; rintro e w1 ⟨b, c, vs, rfl, hO, hce, hnc, hb1⟩))
  have hb01 := below_then hb0 hb1
  have hre := reverse_any T n c W0.heap.size b vs w w1 HT.out hn hO hce
  replace p1 := cell_grown hb1 p1
  replace p2 := cell_grown hb1 p2
  have hrow1 := hrow.of_block (hb1.block _ hrow.lt)
  have hbl : ∀ r, (Value.slice b n c).ownBlock = some r → w.heap.size + 2 ≤ r := fun r e => by have := (hO.lt r e).1; have := HZ.out; omega
  go_upto_region 3 with (first | (go_at_call 118; refine hre.mono ?_; rintro e w2 ⟨rfl, hTx, hg⟩))
  have hb2 : Below w.heap.size w w2 := hb01.grown hg hb01.size (fun r e => by have := hbl r e; omega)
  replace p1 := cell_kept hg (fun e => by have := hbl _ e.symm; omega) p1
  replace p2 := cell_kept hg (fun e => by have := hbl _ e.symm; omega) p2
  have hrow2 := hrow1.of_block (hg.block _ hrow1.lt (fun e => by have := hbl _ e.symm; omega))
  have gp := lt_of_cell p1
  have gr := hrow2.lt
  have r0 := hrow2.cell (i := 0) (by decide)
  have r1 := hrow2.cell (i := 1) (by decide)
  have r2 := hrow2.cell (i := 2) (by decide)
  have f0 := hrow2.frozen 0
  have f1 := hrow2.frozen 1
  have f2 := hrow2.frozen 2
  have hown : ∀ g, b = some ⟨g, 0, none⟩ → n = 0 ∨ w.heap.size + 2 ≤ g := fun g e => by
    by_cases h0 : n = 0
    · exact .inl h0
    · exact .inr (hbl g (by rw [e]; simp [Value.ownBlock]))
  clear hcl hre hg hO hce hrow hrow1 hbl
  go_wp2_with fail
  obtain ⟨W3, hW3⟩ : ∃ X, X = set3 w2 (w.heap.size + 1) (.slice b n c) (.int .u8 s) (.int .i64 f) := ⟨_, rfl⟩
  have hrow3 : W3.rowIs (w.heap.size + 1) 116 3 (fun i => if i = 0 then .slice b n c else if i = 1 then .int .u8 s else .int .i64 f) := by
    rw [hW3]
    unfold set3
    refine (((hrow2.set 0 _).set 1 _).set 2 _).congr (fun i hi => ?_)
    iterate 3 (rcases i with _ | i; · rfl)
    omega
  have hb3 : Below w.heap.size w W3 := by
    rw [hW3]
    unfold set3
    exact ((hb2.setCell (p := ⟨w.heap.size + 1, 0, none⟩) (by simp) _).setCell (p := ⟨w.heap.size + 1, 1, none⟩) (by simp) _).setCell (p := ⟨w.heap.size + 1, 2, none⟩) (by simp) _
  have hT3 : TextOver w W3 b T.reverse := fun i hi => by
    obtain ⟨g, ma, mc, e, c0, c1, hI⟩ := hTx i hi
    have hne : g ≠ w.heap.size + 1 := by
      rcases hown g e with h | h
      · have := HT.out; rw [List.length_reverse] at hi; omega
      · omega
    rw [hW3]
    exact ⟨g, ma, mc, e, set3_cell hne c0, set3_cell hne c1, hI⟩
  have z0 : W3.cell? ⟨w.heap.size + 1, 0, none⟩ = some (.slice b n c) := hrow3.cell (i := 0) (by decide)
  have z1 : W3.cell? ⟨w.heap.size + 1, 1, none⟩ = some (.int .u8 s) := hrow3.cell (i := 1) (by decide)
  have z2 : W3.cell? ⟨w.heap.size + 1, 2, none⟩ = some (.int .i64 f) := hrow3.cell (i := 2) (by decide)
  show bodyPost _ _ _ _ _ (set3 w2 (w.heap.size + 1) (.slice b n c) (.int .u8 s) (.int .i64 f))
  rw [← hW3]
  exact bodyPost_ret (v := .agg #[.slice b n c, .int .u8 s, .int .i64 f]) (by simp [results, Try.f88, go_sem, z0, z1, z2]) rfl ⟨b, c, rfl, hT3.text hb3, hnc, hb3⟩

end Go.Proofs.Ytohahlnhbppnhaa
