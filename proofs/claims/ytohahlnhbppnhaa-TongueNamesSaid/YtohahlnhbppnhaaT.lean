/- Tongue: which step is taken at a place. -/
import Derived.Test.YtohahlnhbppnhaaS
import Derived.Laws.StructEq
namespace Go.Proofs.Ytohahlnhbppnhaa
open Go.RowKit Go.Shelf
set_option linter.unusedSimpArgs false
set_option linter.unusedVariables false

attribute [local go_sem] Oper.semAt_some

/-- Eight values, by their places. -/
def row8 (v0 v1 v2 v3 v4 v5 v6 v7 : Value) : Nat → Value
  | 0 => v0 | 1 => v1 | 2 => v2 | 3 => v3 | 4 => v4 | 5 => v5 | 6 => v6 | _ => v7

def set8 (X : World) (b : Nat) (v0 v1 v2 v3 v4 v5 v6 v7 : Value) : World := (((((((X.setCell ⟨b, 0, none⟩ v0).setCell ⟨b, 1, none⟩ v1).setCell ⟨b, 2, none⟩ v2).setCell ⟨b, 3, none⟩ v3).setCell ⟨b, 4, none⟩ v4).setCell ⟨b, 5, none⟩ v5).setCell ⟨b, 6, none⟩ v6).setCell ⟨b, 7, none⟩ v7

theorem set8_row {X : World} {b : Nat} {t : TypeId} {f : Nat → Value} (v0 v1 v2 v3 v4 v5 v6 v7 : Value) (h : X.rowIs b t 8 f) : (set8 X b v0 v1 v2 v3 v4 v5 v6 v7).rowIs b t 8 (row8 v0 v1 v2 v3 v4 v5 v6 v7) := by
  unfold set8
  refine ((((((((h.set 0 _).set 1 _).set 2 _).set 3 _).set 4 _).set 5 _).set 6 _).set 7 _).congr (fun i hi => ?_)
  iterate 8 (rcases i with _ | i; · rfl)
  omega

theorem set8_below {B : Nat} {X Y : World} {b : Nat} (v0 v1 v2 v3 v4 v5 v6 v7 : Value) (h : Below B X Y) (hb : B ≤ b) : Below B X (set8 Y b v0 v1 v2 v3 v4 v5 v6 v7) := by
  unfold set8
  exact ((((((((h.setCell (p := ⟨b, 0, none⟩) hb _).setCell (p := ⟨b, 1, none⟩) hb _).setCell (p := ⟨b, 2, none⟩) hb _).setCell (p := ⟨b, 3, none⟩) hb _).setCell (p := ⟨b, 4, none⟩) hb _).setCell (p := ⟨b, 5, none⟩) hb _).setCell (p := ⟨b, 6, none⟩) hb _).setCell (p := ⟨b, 7, none⟩) hb _)

theorem set8_cell {X : World} {b c o : Nat} {v : Value} (v0 v1 v2 v3 v4 v5 v6 v7 : Value) (hne : c ≠ b) (h : X.cell? ⟨c, o, none⟩ = some v) : (set8 X b v0 v1 v2 v3 v4 v5 v6 v7).cell? ⟨c, o, none⟩ = some v := by
  unfold set8
  rw [World.cell?_setCell_other _ _ _ _ (by simp [hne]), World.cell?_setCell_other _ _ _ _ (by simp [hne]), World.cell?_setCell_other _ _ _ _ (by simp [hne]), World.cell?_setCell_other _ _ _ _ (by simp [hne]), World.cell?_setCell_other _ _ _ _ (by simp [hne]), World.cell?_setCell_other _ _ _ _ (by simp [hne]), World.cell?_setCell_other _ _ _ _ (by simp [hne]), World.cell?_setCell_other _ _ _ _ (by simp [hne])]
  exact h

theorem set8_other {X : World} {b c m : Nat} {t : TypeId} {f : Nat → Value} (v0 v1 v2 v3 v4 v5 v6 v7 : Value) (hne : c ≠ b) (h : X.rowIs c t m f) : (set8 X b v0 v1 v2 v3 v4 v5 v6 v7).rowIs c t m f := by
  unfold set8
  exact ((((((((h.setOther (a := ⟨b, 0, none⟩) hne _).setOther (a := ⟨b, 1, none⟩) hne _).setOther (a := ⟨b, 2, none⟩) hne _).setOther (a := ⟨b, 3, none⟩) hne _).setOther (a := ⟨b, 4, none⟩) hne _).setOther (a := ⟨b, 5, none⟩) hne _).setOther (a := ⟨b, 6, none⟩) hne _).setOther (a := ⟨b, 7, none⟩) hne _)

theorem set8_keeps {X : World} {b : Nat} (v0 v1 v2 v3 v4 v5 v6 v7 : Value) : KeepsOthers X (set8 X b v0 v1 v2 v3 v4 v5 v6 v7) := by
  unfold set8
  exact ((((((((KeepsOthers.setCell _ _ _).trans (KeepsOthers.setCell _ _ _)).trans (KeepsOthers.setCell _ _ _)).trans (KeepsOthers.setCell _ _ _)).trans (KeepsOthers.setCell _ _ _)).trans (KeepsOthers.setCell _ _ _)).trans (KeepsOthers.setCell _ _ _)).trans (KeepsOthers.setCell _ _ _))

theorem row_kept {A A' : World} {row : Option Nat} {b m : Nat} {t : TypeId} {f : Nat → Value} (h : A.rowIs b t m f) (hg : A.grownBy A' row) (hr : ∀ r, row = some r → ∃ o : Obj, A.heap[r]? = some o ∧ o.isCells = false) : A'.rowIs b t m f := by
  refine h.of_block (hg.block b h.lt (fun e => ?_))
  obtain ⟨o, ho, hc⟩ := hr b e.symm
  obtain ⟨c, hcc⟩ := h
  have := hcc.1
  rw [ho] at this
  cases this
  cases hc

theorem struct2_eql (t : TypeId) (ht : t = 36 ∨ t = 150) (x1 x2 y1 y2 : Int) (w : World) : (binOp .eql t (.agg #[.int .i64 x1, .int .i64 x2]) (.agg #[.int .i64 y1, .int .i64 y2])).run Try.prog w = .ok (.bool (decide (x1 = y1 ∧ x2 = y2))) w := by
  have u3 := Try.underlying3
  have a3 := Try.isAgg3
  have z3 := Try.sizeOf3
  rcases ht with rfl | rfl
  · have hS : Try.prog.underlying 36 = some (.struct (Try.prog.fieldsOf 36)) := by kernel_rfl
    have hp : Try.prog.stoodInHeld 36 = false := by kernel_rfl
    rw [run_eql_struct, show (10000 : Nat) = 9999 + 1 from rfl, run_equalIn_agg w 9999 36 _ _ hS hp]
    simp only [Program.fieldsOf, Try.underlying36]
    go_simp
    by_cases h1 : x1 = y1 <;> by_cases h2 : x2 = y2 <;> simp [h1, h2]
  · have hS : Try.prog.underlying 150 = some (.struct (Try.prog.fieldsOf 150)) := by kernel_rfl
    have hp : Try.prog.stoodInHeld 150 = false := by kernel_rfl
    rw [run_eql_struct, show (10000 : Nat) = 9999 + 1 from rfl, run_equalIn_agg w 9999 150 _ _ hS hp]
    simp only [Program.fieldsOf, Try.underlying150]
    go_simp
    by_cases h1 : x1 = y1 <;> by_cases h2 : x2 = y2 <;> simp [h1, h2]

theorem Try.guard36 : Try.prog.eqGuardType Try.prog.depth 36 = false := by kernel_rfl
theorem Try.guard150 : Try.prog.eqGuardType Try.prog.depth 150 = false := by kernel_rfl

/-- The step that is taken at a place, if it may come next. -/
def isStep (x y : Int) (t : Nat × Nat) : Bool := decide ((t.1 : Int) = x ∧ (t.2 : Int) = y)

theorem step_eql (s1 s2 : Nat) (x y : Int) (w : World) : (binOp .eql 36 (.agg #[.int .i64 (s1 : Int), .int .i64 (s2 : Int)]) (.agg #[.int .i64 x, .int .i64 y])).run Try.prog w = .ok (.bool (isStep x y (s1, s2))) w := struct2_eql 36 (.inl rfl) _ _ _ _ w

def takeM (nl nr i k : Nat) (x y : Int) : Option (Nat × Nat) := (movesM nl nr i k).find? (isStep x y)

/-- A step that is taken, cell by cell. -/
def moveF (la : Option Addr) (cl : Nat) (ra : Option Addr) (cr i k : Nat) (t : Nat × Nat) : Nat → Value := row8 (.int .i64 (t.1 : Int)) (.int .i64 (t.2 : Int)) (.slice (subA la cl i 2) t.1 (cl - i)) (.int .u8 0) (.int .i64 (i : Int)) (.slice (subA ra cr k 2) t.2 (cr - k)) (.int .u8 1) (.int .i64 (k : Int))

def TakePost (nl nr cl cr i k : Nat) (la ra : Option Addr) (x y : Int) (w : World) (e : Ending) (w' : World) : Prop :=
  Below w.heap.size w w' ∧ match takeM nl nr i k x y with
    | some t => e = .returned (.tuple #[.agg #[.int .i64 (t.1 : Int), .int .i64 (t.2 : Int), .slice (subA la cl i 2) t.1 (cl - i), .int .u8 0, .int .i64 (i : Int), .slice (subA ra cr k 2) t.2 (cr - k), .int .u8 1, .int .i64 (k : Int)], .bool true])
    | none => e = .returned (.tuple #[.agg #[.int .i64 0, .int .i64 0, .slice none 0 0, .int .u8 0, .int .i64 0, .slice none 0 0, .int .u8 0, .int .i64 0], .bool false])

set_option maxRecDepth 100000 in
set_option maxHeartbeats 400000 in
theorem take_any (nl cl nr cr i k cn cc : Nat) (la ra ca : Option Addr) (x y : Int) (w : World) (hnl : nl ≤ 1000) (hnr : nr ≤ 1000) (hcl : nl ≤ cl) (hcr : nr ≤ cr) (hi : i ≤ 1000) (hk : k ≤ 1000) :
    Calls Try.prog 83 #[.agg #[.slice la nl cl, .int .u8 0, .int .i64 0, .slice ra nr cr, .int .u8 1, .int .i64 0, .slice ca cn cc], .agg #[.int .i64 (i : Int), .int .i64 (k : Int)], .agg #[.int .i64 x, .int .i64 y]] w (TakePost nl nr cl cr i k la ra x y w) := by
  obtain ⟨F, hFw⟩ : ∃ F, F = Fence.wide := ⟨_, rfl⟩
  have hF : ∀ f, F.fn f := fun f => by rw [hFw]; exact trivial
  have hro : F.round = none := by rw [hFw]; rfl
  have hd : F.depth = none := by rw [hFw]; rfl
  have hc : ∀ {n : Nat} {f args w R}, Calls Try.prog f args w R → CallsIn F n Try.prog f args w R := fun h => by rw [hFw]; exact callsIn_wide.2 h
  suffices h : CallsIn F 9 Try.prog 83 #[.agg #[.slice la nl cl, .int .u8 0, .int .i64 0, .slice ra nr cr, .int .u8 1, .int .i64 0, .slice ca cn cc], .agg #[.int .i64 (i : Int), .int .i64 (k : Int)], .agg #[.int .i64 x, .int .i64 y]] w (TakePost nl nr cl cr i k la ra x y w) by
    rw [hFw] at h; exact callsIn_wide.1 h
  clear hFw
  obtain ⟨n, hn⟩ : ∃ n, n = 9 := ⟨_, rfl⟩
  rw [← hn]
  have hn3 : 8 ≤ n := by omega
  have h1 : 1 ≤ n := by omega
  clear hn
  refine callsIn_of_wp_marks Try.func83 rfl (hF _) ?_ hro
  simp only [Try.ntmps83, List.size_toArray, List.length_cons, List.length_nil, Nat.reduceAdd, Nat.reduceSub, Array.replicate_succ, Array.replicate_zero, List.push_toArray, List.append_toArray, List.nil_append, List.cons_append]
  gi_wp2_with (gi_at_call 80; refine (hc (next_make (.slice la nl cl) (.int .u8 0) (.int .i64 0) (.slice ra nr cr) (.int .u8 1) (.int .i64 0) (.slice ca cn cc) (.int .i64 (i : Int)) (.int .i64 (k : Int)) _)).mono ?_; rintro e w' ⟨rfl, rfl⟩)
  obtain ⟨rb, hrb⟩ : ∃ c, c = w.heap.size + 1 + 1 + 1 := ⟨_, rfl⟩
  obtain ⟨W2, hW2⟩ : ∃ Y, Y = ((((((w.alloc (.cells #[.slice la nl cl, .int .u8 0, .int .i64 0, .slice ra nr cr, .int .u8 1, .int .i64 0, .slice ca cn cc] 119)).alloc (.cells #[.int .i64 (i : Int), .int .i64 (k : Int)] 150)).alloc (.cells #[.int .i64 x, .int .i64 y] 36)).alloc (.cells #[.int .i64 0, .int .i64 0, .slice none 0 0, .int .u8 0, .int .i64 0, .slice none 0 0, .int .u8 0, .int .i64 0] 155)).alloc (.cells #[.bool false] 4)).alloc (.cells #[.slice la nl cl, .int .u8 0, .int .i64 0, .slice ra nr cr, .int .u8 1, .int .i64 0, .slice ca cn cc] 119)).alloc (.cells #[.int .i64 (i : Int), .int .i64 (k : Int)] 150) := ⟨_, rfl⟩
  have hB2 : Below w.heap.size w W2 := by rw [hW2]; exact ((((((((Below.refl _ w).alloc (Nat.le_refl _) _).alloc (by simp; try omega) _).alloc (by simp; try omega) _).alloc (by simp; try omega) _).alloc (by simp; try omega) _).alloc (by simp; try omega) _).alloc (by simp; try omega) _)
  have s2 : W2.heap.size = rb + 4 := by rw [hW2, hrb]; simp
  have x0 : W2.cell? ⟨w.heap.size + 1 + 1, 0, none⟩ = some (.int .i64 x) := by rw [hW2]; simp [go_sem]
  have x1 : W2.cell? ⟨w.heap.size + 1 + 1, 1, none⟩ = some (.int .i64 y) := by rw [hW2]; simp [go_sem]
  have y0 : W2.cell? ⟨rb + 1 + 1, 0, none⟩ = some (.slice la nl cl) := by rw [hW2, hrb]; simp [go_sem]
  have y1 : W2.cell? ⟨rb + 1 + 1, 1, none⟩ = some (.int .u8 0) := by rw [hW2, hrb]; simp [go_sem]
  have y2 : W2.cell? ⟨rb + 1 + 1, 2, none⟩ = some (.int .i64 0) := by rw [hW2, hrb]; simp [go_sem]
  have y3 : W2.cell? ⟨rb + 1 + 1, 3, none⟩ = some (.slice ra nr cr) := by rw [hW2, hrb]; simp [go_sem]
  have y4 : W2.cell? ⟨rb + 1 + 1, 4, none⟩ = some (.int .u8 1) := by rw [hW2, hrb]; simp [go_sem]
  have y5 : W2.cell? ⟨rb + 1 + 1, 5, none⟩ = some (.int .i64 0) := by rw [hW2, hrb]; simp [go_sem]
  have y6 : W2.cell? ⟨rb + 1 + 1, 6, none⟩ = some (.slice ca cn cc) := by rw [hW2, hrb]; simp [go_sem]
  have ya : W2.cell? ⟨rb + 1 + 1 + 1, 0, none⟩ = some (.int .i64 (i : Int)) := by rw [hW2, hrb]; simp [go_sem]
  have yb : W2.cell? ⟨rb + 1 + 1 + 1, 1, none⟩ = some (.int .i64 (k : Int)) := by rw [hW2, hrb]; simp [go_sem]
  have hr1 : W2.rowIs rb 155 8 (row8 (.int .i64 0) (.int .i64 0) (.slice none 0 0) (.int .u8 0) (.int .i64 0) (.slice none 0 0) (.int .u8 0) (.int .i64 0)) := by
    rw [hW2, hrb]
    refine World.rowIs.alloc (World.rowIs.alloc (World.rowIs.alloc ?_ _) _) _
    have h := World.rowIs_alloc (((w.alloc (.cells #[.slice la nl cl, .int .u8 0, .int .i64 0, .slice ra nr cr, .int .u8 1, .int .i64 0, .slice ca cn cc] 119)).alloc (.cells #[.int .i64 (i : Int), .int .i64 (k : Int)] 150)).alloc (.cells #[.int .i64 x, .int .i64 y] 36)) #[.int .i64 0, .int .i64 0, .slice none 0 0, .int .u8 0, .int .i64 0, .slice none 0 0, .int .u8 0, .int .i64 0] 155 (row8 (.int .i64 0) (.int .i64 0) (.slice none 0 0) (.int .u8 0) (.int .i64 0) (.slice none 0 0) (.int .u8 0) (.int .i64 0)) (fun i hi => by
      have h : i < 8 := hi
      iterate 8 (rcases i with _ | i; · rfl)
      omega)
    simp only [World.size_alloc] at h
    exact h
  have hr2 : W2.rowIs (rb + 1) 4 1 (fun _ => .bool false) := by
    rw [hW2, hrb]
    refine World.rowIs.alloc (World.rowIs.alloc ?_ _) _
    have h := World.rowIs_alloc ((((w.alloc (.cells #[.slice la nl cl, .int .u8 0, .int .i64 0, .slice ra nr cr, .int .u8 1, .int .i64 0, .slice ca cn cc] 119)).alloc (.cells #[.int .i64 (i : Int), .int .i64 (k : Int)] 150)).alloc (.cells #[.int .i64 x, .int .i64 y] 36)).alloc (.cells #[.int .i64 0, .int .i64 0, .slice none 0 0, .int .u8 0, .int .i64 0, .slice none 0 0, .int .u8 0, .int .i64 0] 155)) #[.bool false] 4 (fun _ => .bool false) (fun i hi => by
      have h : i < 1 := hi
      iterate 1 (rcases i with _ | i; · rfl)
      omega)
    simp only [World.size_alloc] at h
    exact h
  rw [← hW2, ← hrb]
  clear hW2
  have hsr : w.heap.size + 3 = rb := by omega
  have HRB := hid hsr
  have hlr : w.heap.size ≤ rb := by omega
  have hsx : w.heap.size + 1 + 1 ≠ rb := by omega
  have hsx2 : w.heap.size + 1 + 1 ≠ rb + 1 := by omega
  have zB2 : rb + 4 ≤ W2.heap.size := by omega
  clear hrb hsr s2
  let I : List (Nat × Nat) → World → Prop := fun pre X => X.rowIs rb 155 8 (row8 (.int .i64 0) (.int .i64 0) (.slice none 0 0) (.int .u8 0) (.int .i64 0) (.slice none 0 0) (.int .u8 0) (.int .i64 0)) ∧ X.rowIs (rb + 1) 4 1 (fun _ => .bool false) ∧ (X.cell? ⟨w.heap.size + 1 + 1, 0, none⟩ = some (.int .i64 x) ∧ X.cell? ⟨w.heap.size + 1 + 1, 1, none⟩ = some (.int .i64 y)) ∧ (∀ t ∈ pre, isStep x y t = false) ∧ Below w.heap.size w X
  let Ix : Code → List (Nat × Nat) → World → Prop := fun c pre X => c = .ret ∧ ∃ q t, pre = q ++ [t] ∧ (∀ t ∈ q, isStep x y t = false) ∧ isStep x y t = true ∧ X.rowIs rb 155 8 (moveF la cl ra cr i k t) ∧ X.rowIs (rb + 1) 4 1 (fun _ => .bool true) ∧ Below w.heap.size w X
  have hI : OwnFrom W2.heap.size I := fun s A A' row hs hg hr => by
    have hr' : ∀ r, row = some r → ∃ o : Obj, A.heap[r]? = some o ∧ o.isCells = false := fun r e => (hr r e).2
    have hne : ∀ r, row = some r → rb + 4 ≤ r := fun r e => by have := (hr r e).1; omega
    obtain ⟨h1, h2, h3, h4, h5⟩ := hs
    exact ⟨row_kept h1 hg hr', row_kept h2 hg hr', ⟨cell_kept h3.1 hg hr', cell_kept h3.2 hg hr'⟩, h4, h5.grown hg h5.size (fun r e => by have := hne r e; omega)⟩
  have hIx : ∀ c, OwnFrom W2.heap.size (Ix c) := fun c s A A' row hs hg hr => by
    have hr' : ∀ r, row = some r → ∃ o : Obj, A.heap[r]? = some o ∧ o.isCells = false := fun r e => (hr r e).2
    have hne : ∀ r, row = some r → rb + 4 ≤ r := fun r e => by have := (hr r e).1; omega
    obtain ⟨hcc, q, t, e1, e2, e3, h1, h2, h5⟩ := hs
    exact ⟨hcc, q, t, e1, e2, e3, row_kept h1 hg hr', row_kept h2 hg hr', h5.grown hg h5.size (fun r e => by have := hne r e; omega)⟩
  have hM : MineOk W2.heap.size I (fun _ j => j = rb ∨ j = rb + 1) := ⟨fun s X j hs hj => by rcases hj with rfl | rfl; exact hs.1.lt; exact hs.2.1.lt, fun _ _ _ _ _ _ _ _ h => h⟩
  refine rangeO hro h1 (gf := 112) (lb := #[.pointer (some ⟨rb + 1 + 1, 0, none⟩), .pointer (some ⟨rb + 1 + 1 + 1, 0, none⟩)]) rfl (hF _) (enters_of Try.func112 (by kernel_rfl) rfl)
    (next_seq hF hro hd hc (by omega) (rb + 1 + 1) (rb + 1 + 1 + 1) nl cl nr cr i k cn cc la ra ca hnl hnr hcl hcr hi hk W2 y0 y1 y2 y3 y4 y5 y6 ya yb) (Below.refl _ _) (fun _ => rfl) I Ix hI hIx
    (fun _ j => j = rb ∨ j = rb + 1) hM (fun j hj h => by rcases hj with rfl | rfl <;> rcases h with h | h <;> omega)
    ⟨hr1, hr2, ⟨x0, x1⟩, fun _ h => (by cases h), hB2⟩
    (fun s a' Y => ∃ Bm, ¬ (Bm = rb ∨ Bm = rb + 1) ∧ (Y.cell? ⟨Bm, 0, none⟩ = some (.int .i64 (s.1 : Int)) ∧ Y.cell? ⟨Bm, 1, none⟩ = some (.int .i64 (s.2 : Int)) ∧ Y.cell? ⟨Bm, 2, none⟩ = some (.slice (subA la cl i 2) s.1 (cl - i)) ∧ Y.cell? ⟨Bm, 3, none⟩ = some (.int .u8 0) ∧ Y.cell? ⟨Bm, 4, none⟩ = some (.int .i64 (i : Int)) ∧ Y.cell? ⟨Bm, 5, none⟩ = some (.slice (subA ra cr k 2) s.2 (cr - k)) ∧ Y.cell? ⟨Bm, 6, none⟩ = some (.int .u8 1) ∧ Y.cell? ⟨Bm, 7, none⟩ = some (.int .i64 (k : Int))) ∧
      a' = { tmps := #[.agg #[.slice la nl cl, .int .u8 0, .int .i64 0, .slice ra nr cr, .int .u8 1, .int .i64 0, .slice ca cn cc], .agg #[.int .i64 (i : Int), .int .i64 (k : Int)], .agg #[.int .i64 x, .int .i64 y], .pointer (some ⟨w.heap.size, 0, none⟩), .pointer (some ⟨w.heap.size + 1, 0, none⟩), .pointer (some ⟨w.heap.size + 1 + 1, 0, none⟩), .pointer (some ⟨rb, 0, none⟩), .pointer (some ⟨rb + 1, 0, none⟩), .pointer (some ⟨Bm, 0, none⟩), .agg #[.slice la nl cl, .int .u8 0, .int .i64 0, .slice ra nr cr, .int .u8 1, .int .i64 0, .slice ca cn cc], .agg #[.int .i64 (i : Int), .int .i64 (k : Int)], .func (.func 112) #[] #[.pointer (some ⟨rb + 1 + 1, 0, none⟩), .pointer (some ⟨rb + 1 + 1 + 1, 0, none⟩)], .agg #[.int .i64 (s.1 : Int), .int .i64 (s.2 : Int), .slice (subA la cl i 2) s.1 (cl - i), .int .u8 0, .int .i64 (i : Int), .slice (subA ra cr k 2) s.2 (cr - k), .int .u8 1, .int .i64 (k : Int)], undef, undef, undef, undef, undef, undef], defers := [] })
    ?hAx ?assign ?body ?done ?stop
  case hAx =>
    rintro s a' u A A' row ⟨Bm, hm, ⟨c0, c1, c2, c3, c4, c5, c6, c7⟩, e⟩ hg hr
    have hr' : ∀ r, row = some r → ∃ o : Obj, A.heap[r]? = some o ∧ o.isCells = false := fun r e => (hr r e).2
    exact ⟨Bm, hm, ⟨cell_kept c0 hg hr', cell_kept c1 hg hr', cell_kept c2 hg hr', cell_kept c3 hg hr', cell_kept c4 hg hr', cell_kept c5 hg hr', cell_kept c6 hg hr', cell_kept c7 hg hr'⟩, e⟩
  case assign =>
    intro l2 pre2 s Y K hi2 hY hK
    dsimp only [encMove]
    gi_wp2
    exact hK _ (Y.alloc (.cells #[.int .i64 (s.1 : Int), .int .i64 (s.2 : Int), .slice (subA la cl i 2) s.1 (cl - i), .int .u8 0, .int .i64 (i : Int), .slice (subA ra cr k 2) s.2 (cr - k), .int .u8 1, .int .i64 (k : Int)] 155)) ((KeepsOthers.alloc _ _).from _) (hM.alloc hi2 _) (OwnFrom.alloc hI _ hi2) ⟨Y.heap.size, by omega, ⟨by rw [World.cell?_alloc_new]; rfl, by rw [World.cell?_alloc_new]; rfl, by rw [World.cell?_alloc_new]; rfl, by rw [World.cell?_alloc_new]; rfl, by rw [World.cell?_alloc_new]; rfl, by rw [World.cell?_alloc_new]; rfl, by rw [World.cell?_alloc_new]; rfl, by rw [World.cell?_alloc_new]; rfl⟩, rfl⟩
  case done =>
    rintro D X hD ⟨h1, h2, -, h4, h5⟩ hK
    have hn : takeM nl nr i k x y = none := List.find?_eq_none.2 fun t ht => by rw [h4 t ht]; simp
    have q0 := h1.cell (i := 0) (by decide)
    have f0 := h1.frozen 0
    have q1 := h1.cell (i := 1) (by decide)
    have f1 := h1.frozen 1
    have q2 := h1.cell (i := 2) (by decide)
    have f2 := h1.frozen 2
    have q3 := h1.cell (i := 3) (by decide)
    have f3 := h1.frozen 3
    have q4 := h1.cell (i := 4) (by decide)
    have f4 := h1.frozen 4
    have q5 := h1.cell (i := 5) (by decide)
    have f5 := h1.frozen 5
    have q6 := h1.cell (i := 6) (by decide)
    have f6 := h1.frozen 6
    have q7 := h1.cell (i := 7) (by decide)
    have f7 := h1.frozen 7
    have qb := h2.cell (i := 0) (by decide)
    have fb := h2.frozen 0
    have g1 := h1.lt
    have g2 := h2.lt
    gi_wp2
    have hkk : ((set8 X rb (.int .i64 0) (.int .i64 0) (.slice none 0 0) (.int .u8 0) (.int .i64 0) (.slice none 0 0) (.int .u8 0) (.int .i64 0)).setCell ⟨rb + 1, 0, none⟩ (.bool false)).heap[D]? = some (.deferred (some [])) := ((set8_keeps (.int .i64 0) (.int .i64 0) (.slice none 0 0) (.int .u8 0) (.int .i64 0) (.slice none 0 0) (.int .u8 0) (.int .i64 0)).trans (KeepsOthers.setCell _ _ _)).same D _ hK rfl
    have hbf : Below w.heap.size w ((set8 X rb (.int .i64 0) (.int .i64 0) (.slice none 0 0) (.int .u8 0) (.int .i64 0) (.slice none 0 0) (.int .u8 0) (.int .i64 0)).setCell ⟨rb + 1, 0, none⟩ (.bool false)) := (set8_below (.int .i64 0) (.int .i64 0) (.slice none 0 0) (.int .u8 0) (.int .i64 0) (.slice none 0 0) (.int .u8 0) (.int .i64 0) h5 hlr).setCell (p := ⟨rb + 1, 0, none⟩) (by simp; omega) _
    have t1 := (set8_row (.int .i64 0) (.int .i64 0) (.slice none 0 0) (.int .u8 0) (.int .i64 0) (.slice none 0 0) (.int .u8 0) (.int .i64 0) h1).setOther (a := ⟨rb + 1, 0, none⟩) (by simp) (.bool false)
    have t2 := (set8_other (.int .i64 0) (.int .i64 0) (.slice none 0 0) (.int .u8 0) (.int .i64 0) (.slice none 0 0) (.int .u8 0) (.int .i64 0) (b := rb) (by omega) h2).set 0 (.bool false)
    show bodyPostM _ _ _ _ _ Exit.ret _ ((set8 X rb (.int .i64 0) (.int .i64 0) (.slice none 0 0) (.int .u8 0) (.int .i64 0) (.slice none 0 0) (.int .u8 0) (.int .i64 0)).setCell ⟨rb + 1, 0, none⟩ (.bool false))
    generalize (set8 X rb (.int .i64 0) (.int .i64 0) (.slice none 0 0) (.int .u8 0) (.int .i64 0) (.slice none 0 0) (.int .u8 0) (.int .i64 0)).setCell ⟨rb + 1, 0, none⟩ (.bool false) = WB at hkk hbf t1 t2 ⊢
    refine ⟨by simp, .inl ⟨_, _, rfl, run_takeDeferred hkk, ?_⟩⟩
    have hg := grownBy_putObj' WB D (.deferred none)
    have hrr : ∀ r, (some D) = some r → ∃ o : Obj, WB.heap[r]? = some o ∧ o.isCells = false := fun r e => by cases e; exact ⟨_, hkk, rfl⟩
    have r1 := row_kept t1 hg hrr
    have r2 := row_kept t2 hg hrr
    have hbz := hbf.grown hg hbf.size (fun r e => by cases e; omega)
    generalize WB.putObj D (.deferred none) = WF at r1 r2 hbz ⊢
    have z0 : WF.cell? ⟨rb, 0, none⟩ = some (.int .i64 0) := r1.cell (i := 0) (by decide)
    have z1 : WF.cell? ⟨rb, 1, none⟩ = some (.int .i64 0) := r1.cell (i := 1) (by decide)
    have z2 : WF.cell? ⟨rb, 2, none⟩ = some (.slice none 0 0) := r1.cell (i := 2) (by decide)
    have z3 : WF.cell? ⟨rb, 3, none⟩ = some (.int .u8 0) := r1.cell (i := 3) (by decide)
    have z4 : WF.cell? ⟨rb, 4, none⟩ = some (.int .i64 0) := r1.cell (i := 4) (by decide)
    have z5 : WF.cell? ⟨rb, 5, none⟩ = some (.slice none 0 0) := r1.cell (i := 5) (by decide)
    have z6 : WF.cell? ⟨rb, 6, none⟩ = some (.int .u8 0) := r1.cell (i := 6) (by decide)
    have z7 : WF.cell? ⟨rb, 7, none⟩ = some (.int .i64 0) := r1.cell (i := 7) (by decide)
    have zb : WF.cell? ⟨rb + 1, 0, none⟩ = some (.bool false) := r2.cell (i := 0) (by decide)
    refine ⟨.tuple #[.agg #[.int .i64 0, .int .i64 0, .slice none 0 0, .int .u8 0, .int .i64 0, .slice none 0 0, .int .u8 0, .int .i64 0], .bool false], by simp [results, Try.f83, go_sem, zb, z0, z1, z2, z3, z4, z5, z6, z7], hbz, ?_⟩
    rw [hn]
  case stop =>
    rintro D c pre X hD hpre ⟨rfl, q, t, e1, e2, e3, h1, h2, h5⟩ hK
    obtain ⟨rest, hrest⟩ := hpre
    have hn : takeM nl nr i k x y = some t := by
      unfold takeM
      rw [← hrest, e1, List.append_assoc, List.find?_append]
      have : q.find? (isStep x y) = none := List.find?_eq_none.2 fun t ht => by rw [e2 t ht]; simp
      rw [this]
      simp [List.find?, e3]
    gi_wp2
    refine ⟨by simp, .inl ⟨_, _, rfl, run_takeDeferred hK, ?_⟩⟩
    have hg := grownBy_putObj' X D (.deferred none)
    have hrr : ∀ r, (some D) = some r → ∃ o : Obj, X.heap[r]? = some o ∧ o.isCells = false := fun r e => by cases e; exact ⟨_, hK, rfl⟩
    have r1 := row_kept h1 hg hrr
    have r2 := row_kept h2 hg hrr
    have hbz := h5.grown hg h5.size (fun r e => by cases e; omega)
    generalize X.putObj D (.deferred none) = WF at r1 r2 hbz ⊢
    have z0 : WF.cell? ⟨rb, 0, none⟩ = some (.int .i64 (t.1 : Int)) := r1.cell (i := 0) (by decide)
    have z1 : WF.cell? ⟨rb, 1, none⟩ = some (.int .i64 (t.2 : Int)) := r1.cell (i := 1) (by decide)
    have z2 : WF.cell? ⟨rb, 2, none⟩ = some (.slice (subA la cl i 2) t.1 (cl - i)) := r1.cell (i := 2) (by decide)
    have z3 : WF.cell? ⟨rb, 3, none⟩ = some (.int .u8 0) := r1.cell (i := 3) (by decide)
    have z4 : WF.cell? ⟨rb, 4, none⟩ = some (.int .i64 (i : Int)) := r1.cell (i := 4) (by decide)
    have z5 : WF.cell? ⟨rb, 5, none⟩ = some (.slice (subA ra cr k 2) t.2 (cr - k)) := r1.cell (i := 5) (by decide)
    have z6 : WF.cell? ⟨rb, 6, none⟩ = some (.int .u8 1) := r1.cell (i := 6) (by decide)
    have z7 : WF.cell? ⟨rb, 7, none⟩ = some (.int .i64 (k : Int)) := r1.cell (i := 7) (by decide)
    have zb : WF.cell? ⟨rb + 1, 0, none⟩ = some (.bool true) := r2.cell (i := 0) (by decide)
    refine ⟨.tuple #[.agg #[.int .i64 (t.1 : Int), .int .i64 (t.2 : Int), .slice (subA la cl i 2) t.1 (cl - i), .int .u8 0, .int .i64 (i : Int), .slice (subA ra cr k 2) t.2 (cr - k), .int .u8 1, .int .i64 (k : Int)], .bool true], by simp [results, Try.f83, go_sem, zb, z0, z1, z2, z3, z4, z5, z6, z7], hbz, ?_⟩
    rw [hn]
  case body =>
    rintro l pre ⟨s1, s2⟩ rest a2 Y hxs hY hl ⟨r, hr⟩ hi2 ⟨Bm, hBm, ⟨c0, c1, c2, c3, c4, c5, c6, c7⟩, rfl⟩
    obtain ⟨h1, h2, ⟨x0, x1⟩, h4, h5⟩ := id hi2
    simp only at c0 c1 c2 c3 c4 c5 c6 c7
    have gx := lt_of_cell x0
    have gm := lt_of_cell c0
    have heq := fun W => step_eql s1 s2 x y W
    have HX := hid hxs
    clear hxs
    cases hst : isStep x y (s1, s2)
    · rw [hst] at heq
      have HST := hid hst
      clear hst
      gi_wp2_with fail
      refine ⟨KeepsFrom.refl _ _, Keep.refl _ _, h1, h2, ⟨x0, x1⟩, fun t ht => ?_, h5⟩
      rcases List.mem_append.1 ht with e | e
      · exact h4 t e
      · rw [List.mem_singleton] at e; rw [e]; exact HST.out
    · rw [hst] at heq
      have HST := hid hst
      clear hst
      have q0 := h1.cell (i := 0) (by decide)
      have f0 := h1.frozen 0
      have q1 := h1.cell (i := 1) (by decide)
      have f1 := h1.frozen 1
      have q2 := h1.cell (i := 2) (by decide)
      have f2 := h1.frozen 2
      have q3 := h1.cell (i := 3) (by decide)
      have f3 := h1.frozen 3
      have q4 := h1.cell (i := 4) (by decide)
      have f4 := h1.frozen 4
      have q5 := h1.cell (i := 5) (by decide)
      have f5 := h1.frozen 5
      have q6 := h1.cell (i := 6) (by decide)
      have f6 := h1.frozen 6
      have q7 := h1.cell (i := 7) (by decide)
      have f7 := h1.frozen 7
      have qb := h2.cell (i := 0) (by decide)
      have fb := h2.frozen 0
      have g1 := h1.lt
      have g2 := h2.lt
      gi_wp2_with fail
      show _ ∧ _
      refine ⟨((set8_keeps (.int .i64 (s1 : Int)) (.int .i64 (s2 : Int)) (.slice (subA la cl i 2) s1 (cl - i)) (.int .u8 0) (.int .i64 (i : Int)) (.slice (subA ra cr k 2) s2 (cr - k)) (.int .u8 1) (.int .i64 (k : Int))).trans (KeepsOthers.setCell _ _ _)).from _, ?_, rfl, pre, (s1, s2), rfl, h4, HST.out, ?_, ?_, ?_⟩
      · intro bb o u hcell hnot
        have n1 : bb ≠ rb := fun e => hnot (.inl e)
        have n2 : bb ≠ rb + 1 := fun e => hnot (.inr e)
        exact (World.cell?_setCell_other _ _ _ _ (by simp [n2])).trans (set8_cell (.int .i64 (s1 : Int)) (.int .i64 (s2 : Int)) (.slice (subA la cl i 2) s1 (cl - i)) (.int .u8 0) (.int .i64 (i : Int)) (.slice (subA ra cr k 2) s2 (cr - k)) (.int .u8 1) (.int .i64 (k : Int)) n1 hcell)
      · exact (set8_row (.int .i64 (s1 : Int)) (.int .i64 (s2 : Int)) (.slice (subA la cl i 2) s1 (cl - i)) (.int .u8 0) (.int .i64 (i : Int)) (.slice (subA ra cr k 2) s2 (cr - k)) (.int .u8 1) (.int .i64 (k : Int)) h1).setOther (a := ⟨rb + 1, 0, none⟩) (by simp) (.bool true)
      · exact ((set8_other (.int .i64 (s1 : Int)) (.int .i64 (s2 : Int)) (.slice (subA la cl i 2) s1 (cl - i)) (.int .u8 0) (.int .i64 (i : Int)) (.slice (subA ra cr k 2) s2 (cr - k)) (.int .u8 1) (.int .i64 (k : Int)) (b := rb) (by omega) h2).set 0 (.bool true)).congr (fun i hi => by
          have : i = 0 := by omega
          rw [this]
          rfl)
      · exact (set8_below (.int .i64 (s1 : Int)) (.int .i64 (s2 : Int)) (.slice (subA la cl i 2) s1 (cl - i)) (.int .u8 0) (.int .i64 (i : Int)) (.slice (subA ra cr k 2) s2 (cr - k)) (.int .u8 1) (.int .i64 (k : Int)) h5 hlr).setCell (p := ⟨rb + 1, 0, none⟩) (by simp; omega) _

end Go.Proofs.Ytohahlnhbppnhaa
