/- Tongue: the pair of two texts; the best match, asked for. -/
import Derived.Test.YtohahlnhbppnhaaR
import Derived.Test.YtohahlnhbppnhaaO
namespace Go.Proofs.Ytohahlnhbppnhaa
open Go.RowKit
set_option linter.unusedSimpArgs false
set_option linter.unusedVariables false

/-- Seven values, by their places. -/
def row7 (v0 v1 v2 v3 v4 v5 v6 : Value) : Nat → Value
  | 0 => v0 | 1 => v1 | 2 => v2 | 3 => v3 | 4 => v4 | 5 => v5 | _ => v6

def set7 (X : World) (b : Nat) (v0 v1 v2 v3 v4 v5 v6 : Value) : World :=
  ((((((X.setCell ⟨b, 0, none⟩ v0).setCell ⟨b, 1, none⟩ v1).setCell ⟨b, 2, none⟩ v2).setCell ⟨b, 3, none⟩ v3).setCell ⟨b, 4, none⟩ v4).setCell ⟨b, 5, none⟩ v5).setCell ⟨b, 6, none⟩ v6

theorem set7_row {X : World} {b : Nat} {t : TypeId} {f : Nat → Value} (v0 v1 v2 v3 v4 v5 v6 : Value) (h : X.rowIs b t 7 f) : (set7 X b v0 v1 v2 v3 v4 v5 v6).rowIs b t 7 (row7 v0 v1 v2 v3 v4 v5 v6) := by
  unfold set7
  refine (((((((h.set 0 _).set 1 _).set 2 _).set 3 _).set 4 _).set 5 _).set 6 _).congr (fun i hi => ?_)
  iterate 7 (rcases i with _ | i; · rfl)
  omega

theorem set7_below {B : Nat} {X Y : World} {b : Nat} (v0 v1 v2 v3 v4 v5 v6 : Value) (h : Below B X Y) (hb : B ≤ b) : Below B X (set7 Y b v0 v1 v2 v3 v4 v5 v6) := by
  unfold set7
  exact (((((((h.setCell (p := ⟨b, 0, none⟩) hb _).setCell (p := ⟨b, 1, none⟩) hb _).setCell (p := ⟨b, 2, none⟩) hb _).setCell (p := ⟨b, 3, none⟩) hb _).setCell (p := ⟨b, 4, none⟩) hb _).setCell (p := ⟨b, 5, none⟩) hb _).setCell (p := ⟨b, 6, none⟩) hb _)

theorem set7_cell {X : World} {b c o : Nat} {v : Value} (v0 v1 v2 v3 v4 v5 v6 : Value) (hne : c ≠ b) (h : X.cell? ⟨c, o, none⟩ = some v) : (set7 X b v0 v1 v2 v3 v4 v5 v6).cell? ⟨c, o, none⟩ = some v := by
  unfold set7
  rw [World.cell?_setCell_other _ _ _ _ (by simp [hne]), World.cell?_setCell_other _ _ _ _ (by simp [hne]), World.cell?_setCell_other _ _ _ _ (by simp [hne]), World.cell?_setCell_other _ _ _ _ (by simp [hne]), World.cell?_setCell_other _ _ _ _ (by simp [hne]), World.cell?_setCell_other _ _ _ _ (by simp [hne]), World.cell?_setCell_other _ _ _ _ (by simp [hne])]
  exact h

def PairPost (L R : List Sen) (nl cl nr cr : Nat) (la ra : Option Addr) (w : World) (e : Ending) (w' : World) : Prop :=
  Below w.heap.size w w' ∧ ((faultM L R ≠ 0 ∧ e = .returned (.tuple #[.agg #[.slice none 0 0, .int .u8 0, .int .i64 0, .slice none 0 0, .int .u8 0, .int .i64 0, .slice none 0 0], .int .i64 (faultM L R)])) ∨
    (faultM L R = 0 ∧ ∃ b b0 b2, e = .returned (.tuple #[.agg #[.slice la nl cl, .int .u8 0, .int .i64 0, .slice ra nr cr, .int .u8 1, .int .i64 0, .slice (some ⟨b, 0, none⟩) 3 3], .int .i64 0]) ∧ ChargesAt w' b b0 b2))

set_option maxRecDepth 100000 in
set_option maxHeartbeats 2000000 in
theorem pairOf_any (L R : List Sen) (nl cl nr cr : Nat) (la ra : Option Addr) (w : World) (hL : L.length = nl) (hR : R.length = nr) (sL : Small L) (sR : Small R) (hS : TextAt w la L) (hT : TextAt w ra R) : Calls Try.prog 52 #[.slice la nl cl, .slice ra nr cr] w (PairPost L R nl cl nr cr la ra w) := by
  obtain ⟨W0, hW0⟩ : ∃ X, X = (w.alloc (.cells #[.slice none 0 0, .int .u8 0, .int .i64 0, .slice none 0 0, .int .u8 0, .int .i64 0, .slice none 0 0] 119)).alloc (.cells #[.slice la nl cl, .slice ra nr cr] 114) := ⟨_, rfl⟩
  have hB0 : Below w.heap.size w W0 := by rw [hW0]; exact ((Below.refl _ w).alloc (Nat.le_refl _) _).alloc (by simp) _
  have e0 : W0.cell? ⟨w.heap.size + 1, 0, none⟩ = some (.slice la nl cl) := by rw [hW0]; simp [go_sem]
  have e1 : W0.cell? ⟨w.heap.size + 1, 1, none⟩ = some (.slice ra nr cr) := by rw [hW0]; simp [go_sem]
  have hr : W0.rowIs w.heap.size 119 7 (row7 (.slice none 0 0) (.int .u8 0) (.int .i64 0) (.slice none 0 0) (.int .u8 0) (.int .i64 0) (.slice none 0 0)) := by
    rw [hW0]
    refine World.rowIs.alloc ?_ _
    exact World.rowIs_alloc w _ 119 _ (fun i hi => by
      have h : i < 7 := hi
      iterate 7 (rcases i with _ | i; · rfl)
      omega)
  have hf := fault_any L R nl cl nr cr la ra W0 hL hR sL sR (hS.grown hB0) (hT.grown hB0) (w.heap.size + 1) e0 e1
  obtain ⟨z, hz⟩ : ∃ z, faultM L R = z := ⟨_, rfl⟩
  rw [hz] at hf
  have HZ := hid hz
  clear hz e0 e1 hL hR sL sR hS hT
  by_cases h0 : z = 0
  · subst h0
    go_enter Try.func52, Try.ntmps52
    go_wp2_with (first | (go_at_call 76; rw [← hW0]; clear hW0; refine hf.mono ?_; clear hf; rintro e w1 ⟨rfl, hb1⟩; replace hr := hr.of_block (hb1.block _ hr.lt); replace hB0 := below_then hB0 hb1) | (go_at_call 77; refine (charges_any _).mono ?_; rintro e w2 ⟨b, b0, b2, rfl, hch, hb2⟩; replace hr := hr.of_block (hb2.block _ hr.lt); replace hB0 := below_then hB0 hb2; have q0 := hr.cell (i := 0) (by decide); have f0 := hr.frozen 0; have q1 := hr.cell (i := 1) (by decide); have f1 := hr.frozen 1; have q2 := hr.cell (i := 2) (by decide); have f2 := hr.frozen 2; have q3 := hr.cell (i := 3) (by decide); have f3 := hr.frozen 3; have q4 := hr.cell (i := 4) (by decide); have f4 := hr.frozen 4; have q5 := hr.cell (i := 5) (by decide); have f5 := hr.frozen 5; have q6 := hr.cell (i := 6) (by decide); have f6 := hr.frozen 6; have gl := hr.lt))
    show bodyPost Try.prog Try.f52 _ Exit.ret _ (set7 w2 w.heap.size (.slice la nl cl) (.int .u8 0) (.int .i64 0) (.slice ra nr cr) (.int .u8 1) (.int .i64 0) (.slice (some ⟨b, 0, none⟩) 3 3))
    have row := set7_row (.slice la nl cl) (.int .u8 0) (.int .i64 0) (.slice ra nr cr) (.int .u8 1) (.int .i64 0) (.slice (some ⟨b, 0, none⟩) 3 3) hr
    have hbz := set7_below (.slice la nl cl) (.int .u8 0) (.int .i64 0) (.slice ra nr cr) (.int .u8 1) (.int .i64 0) (.slice (some ⟨b, 0, none⟩) 3 3) hB0 (Nat.le_refl _)
    have hcz : ChargesAt (set7 w2 w.heap.size (.slice la nl cl) (.int .u8 0) (.int .i64 0) (.slice ra nr cr) (.int .u8 1) (.int .i64 0) (.slice (some ⟨b, 0, none⟩) 3 3)) b b0 b2 := by
      have n0 : b ≠ w.heap.size := fun e => by have := hch.c0; rw [e, q0] at this; cases this
      have n1 : b0 ≠ w.heap.size := fun e => by have := hch.z0; rw [e, q0] at this; cases this
      have n2 : b2 ≠ w.heap.size := fun e => by have := hch.z2; rw [e, q0] at this; cases this
      exact ⟨set7_cell _ _ _ _ _ _ _ n0 hch.c0, set7_cell _ _ _ _ _ _ _ n0 hch.c1, set7_cell _ _ _ _ _ _ _ n0 hch.c2, set7_cell _ _ _ _ _ _ _ n0 hch.c3, set7_cell _ _ _ _ _ _ _ n0 hch.c4, set7_cell _ _ _ _ _ _ _ n0 hch.c5, set7_cell _ _ _ _ _ _ _ n1 hch.z0, set7_cell _ _ _ _ _ _ _ n2 hch.z2⟩
    generalize set7 w2 w.heap.size (.slice la nl cl) (.int .u8 0) (.int .i64 0) (.slice ra nr cr) (.int .u8 1) (.int .i64 0) (.slice (some ⟨b, 0, none⟩) 3 3) = WF at row hbz hcz
    have z0 : WF.cell? ⟨w.heap.size, 0, none⟩ = some (.slice la nl cl) := row.cell (i := 0) (by decide)
    have z1 : WF.cell? ⟨w.heap.size, 1, none⟩ = some (.int .u8 0) := row.cell (i := 1) (by decide)
    have z2 : WF.cell? ⟨w.heap.size, 2, none⟩ = some (.int .i64 0) := row.cell (i := 2) (by decide)
    have z3 : WF.cell? ⟨w.heap.size, 3, none⟩ = some (.slice ra nr cr) := row.cell (i := 3) (by decide)
    have z4 : WF.cell? ⟨w.heap.size, 4, none⟩ = some (.int .u8 1) := row.cell (i := 4) (by decide)
    have z5 : WF.cell? ⟨w.heap.size, 5, none⟩ = some (.int .i64 0) := row.cell (i := 5) (by decide)
    have z6 : WF.cell? ⟨w.heap.size, 6, none⟩ = some (.slice (some ⟨b, 0, none⟩) 3 3) := row.cell (i := 6) (by decide)
    exact bodyPost_ret (v := .tuple #[.agg #[.slice la nl cl, .int .u8 0, .int .i64 0, .slice ra nr cr, .int .u8 1, .int .i64 0, .slice (some ⟨b, 0, none⟩) 3 3], .int .i64 0]) (by simp [results, Try.f52, go_sem, z0, z1, z2, z3, z4, z5, z6]) rfl ⟨hbz, .inr ⟨HZ.out, b, b0, b2, rfl, hcz⟩⟩
  · have h0' : ((z : Int) != 0) = true := by simp [h0]
    have h0'' : (z == 0) = false := by simp [h0]
    go_enter Try.func52, Try.ntmps52
    go_wp2_with (first | (go_at_call 76; rw [← hW0]; clear hW0; refine hf.mono ?_; clear hf; rintro e w1 ⟨rfl, hb1⟩; replace hr := hr.of_block (hb1.block _ hr.lt); replace hB0 := below_then hB0 hb1; have q0 := hr.cell (i := 0) (by decide); have f0 := hr.frozen 0; have q1 := hr.cell (i := 1) (by decide); have f1 := hr.frozen 1; have q2 := hr.cell (i := 2) (by decide); have f2 := hr.frozen 2; have q3 := hr.cell (i := 3) (by decide); have f3 := hr.frozen 3; have q4 := hr.cell (i := 4) (by decide); have f4 := hr.frozen 4; have q5 := hr.cell (i := 5) (by decide); have f5 := hr.frozen 5; have q6 := hr.cell (i := 6) (by decide); have f6 := hr.frozen 6; have gl := hr.lt))
    show bodyPost Try.prog Try.f52 _ Exit.ret _ (set7 w1 w.heap.size (.slice none 0 0) (.int .u8 0) (.int .i64 0) (.slice none 0 0) (.int .u8 0) (.int .i64 0) (.slice none 0 0))
    have row := set7_row (.slice none 0 0) (.int .u8 0) (.int .i64 0) (.slice none 0 0) (.int .u8 0) (.int .i64 0) (.slice none 0 0) hr
    have hbz := set7_below (.slice none 0 0) (.int .u8 0) (.int .i64 0) (.slice none 0 0) (.int .u8 0) (.int .i64 0) (.slice none 0 0) hB0 (Nat.le_refl _)
    generalize set7 w1 w.heap.size (.slice none 0 0) (.int .u8 0) (.int .i64 0) (.slice none 0 0) (.int .u8 0) (.int .i64 0) (.slice none 0 0) = WF at row hbz
    have z0 : WF.cell? ⟨w.heap.size, 0, none⟩ = some (.slice none 0 0) := row.cell (i := 0) (by decide)
    have z1 : WF.cell? ⟨w.heap.size, 1, none⟩ = some (.int .u8 0) := row.cell (i := 1) (by decide)
    have z2 : WF.cell? ⟨w.heap.size, 2, none⟩ = some (.int .i64 0) := row.cell (i := 2) (by decide)
    have z3 : WF.cell? ⟨w.heap.size, 3, none⟩ = some (.slice none 0 0) := row.cell (i := 3) (by decide)
    have z4 : WF.cell? ⟨w.heap.size, 4, none⟩ = some (.int .u8 0) := row.cell (i := 4) (by decide)
    have z5 : WF.cell? ⟨w.heap.size, 5, none⟩ = some (.int .i64 0) := row.cell (i := 5) (by decide)
    have z6 : WF.cell? ⟨w.heap.size, 6, none⟩ = some (.slice none 0 0) := row.cell (i := 6) (by decide)
    exact bodyPost_ret (v := .tuple #[.agg #[.slice none 0 0, .int .u8 0, .int .i64 0, .slice none 0 0, .int .u8 0, .int .i64 0, .slice none 0 0], .int .i64 z]) (by simp [results, Try.f52, go_sem, z0, z1, z2, z3, z4, z5, z6]) rfl ⟨hbz, .inl ⟨by rw [HZ.out]; exact h0, by rw [HZ.out]⟩⟩

theorem fine_of (T : List Sen) (hl : limT T = true) (hv : valT T = true) : FineT T ∧ T.length ≤ 20 ∧ (∀ s ∈ T, s.marks.length ≤ 12 ∧ 1 ≤ s.size ∧ s.size ≤ 200) := by
  unfold limT at hl
  unfold valT at hv
  simp only [Bool.and_eq_true, decide_eq_true_eq, List.all_eq_true] at hl hv
  refine ⟨⟨by omega, fun s hs => ?_, fun s hs m hm => ?_⟩, hl.1, fun s hs => ?_⟩
  · have := hl.2 s hs
    simp only [limS, decide_eq_true_eq] at this
    omega
  · have := hv s hs
    simp only [valS, Bool.and_eq_true] at this
    have h1 := this.1
    unfold risingM at h1
    rw [List.all_eq_true] at h1
    obtain ⟨j, hj, rfl⟩ := List.mem_iff_getElem.1 hm
    have h2 := h1 j (List.mem_range.2 hj)
    simp only [riseAt, Bool.and_eq_true, inB, decide_eq_true_eq] at h2
    have h3 := h2.1
    rw [List.getD_eq_getElem?_getD, List.getElem?_eq_getElem hj, Option.getD_some] at h3
    exact h3
  · have h1 := hl.2 s hs
    have h2 := hv s hs
    simp only [limS, decide_eq_true_eq] at h1
    simp only [valS, Bool.and_eq_true, inB, decide_eq_true_eq] at h2
    exact ⟨h1, h2.2⟩

theorem fault_zero {L R : List Sen} (h : faultM L R = 0) : limT L = true ∧ limT R = true ∧ valT L = true ∧ valT R = true := by
  unfold faultM at h
  split at h
  · rename_i h1
    split at h
    · rename_i h2
      simp only [Bool.and_eq_true] at h1 h2
      exact ⟨h1.1, h1.2, h2.1, h2.2⟩
    · omega
  · omega

def MatchPost (L R : List Sen) (w : World) (e : Ending) (w' : World) : Prop :=
  Below w.heap.size w w' ∧ ((faultM L R ≠ 0 ∧ e = .returned (.tuple #[.slice none 0 0, .int .i64 0, .int .i64 (faultM L R)])) ∨
    (faultM L R = 0 ∧ ∃ a cap, e = .returned (.tuple #[.slice a (bestM L R 0 0).length cap, .int .i64 (restM L R 0 0), .int .i64 0]) ∧ StepsAt w' a (bestM L R 0 0)))

set_option maxRecDepth 100000 in
set_option maxHeartbeats 2000000 in
theorem match_any (L R : List Sen) (nl cl nr cr : Nat) (la ra : Option Addr) (w : World) (hL : L.length = nl) (hR : R.length = nr) (sL : Small L) (sR : Small R) (hS : TextAt w la L) (hT : TextAt w ra R) (hcl : nl ≤ cl) (hcr : nr ≤ cr) : Calls Try.prog 19 #[.slice la nl cl, .slice ra nr cr] w (MatchPost L R w) := by
  have hp := pairOf_any L R nl cl nr cr la ra w hL hR sL sR hS hT
  obtain ⟨z, hz⟩ : ∃ z, faultM L R = z := ⟨_, rfl⟩
  have HZ := hid hz
  by_cases h0 : z = 0
  · subst h0
    obtain ⟨l1, l2, v1, v2⟩ := fault_zero hz
    have fL := (fine_of L l1 v1).1
    have fR := (fine_of R l2 v2).1
    clear l1 l2 v1 v2
    have hbest : ∀ W b b0 b2, Below w.heap.size w W → ChargesAt W b b0 b2 → Calls Try.prog 53 #[.agg #[.slice la nl cl, .int .u8 0, .int .i64 0, .slice ra nr cr, .int .u8 1, .int .i64 0, .slice (some ⟨b, 0, none⟩) 3 3]] W (BestPost L R W) := fun W b b0 b2 hW hC => best_any L R nl cl nr cr b b0 b2 la ra W hL hR fL fR hcl hcr (hS.grown hW) (hT.grown hW) hC
    clear hL hR sL sR hS hT fL fR
    go_enter Try.func19, Try.ntmps19
    go_wp2_with (first | (go_at_call 52; refine hp.mono ?_; clear hp; rintro e w1 ⟨hb1, ⟨hne, -⟩ | ⟨-, b, b0, b2, rfl, hch⟩⟩; (exact (hne hz).elim); clear hz) | (go_at_call 53; refine (hbest _ b b0 b2 (hb1.alloc hb1.size _) (hch.grown (below_alloc _ _))).mono ?_; rintro e w2 ⟨sa, sc, rfl, hst, hb2⟩))
    refine bodyPost_ret (v := .tuple #[.slice sa (bestM L R 0 0).length sc, .int .i64 (restM L R 0 0), .int .i64 0]) (by simp [results, Try.f19, go_sem]) rfl ?_
    exact ⟨(hb1.alloc hb1.size _).trans (hb2.mono (by have := hb1.size; simp; omega)), .inr ⟨HZ.out, sa, sc, rfl, hst⟩⟩
  · have h0' : ((z : Int) != 0) = true := by simp [h0]
    clear hL hR sL sR hS hT
    go_enter Try.func19, Try.ntmps19
    go_wp2_with (first | (go_at_call 52; refine hp.mono ?_; clear hp; rintro e w1 ⟨hb1, ⟨-, rfl⟩ | ⟨hne, -⟩⟩; rotate_left 1; (exact (h0 (hz.symm.trans hne)).elim); rw [hz]; clear hz))
    refine bodyPost_ret (v := .tuple #[.slice none 0 0, .int .i64 0, .int .i64 z]) (by simp [results, Try.f19, go_sem]) rfl ?_
    exact ⟨hb1.alloc hb1.size _, .inl ⟨by rw [HZ.out]; exact h0, by rw [HZ.out]⟩⟩

end Go.Proofs.Ytohahlnhbppnhaa
