/- Tongue: a step that is taken: how many marks its sides have not in common, where it ends, what it costs. Tongue: what a step costs. Tongue: the least of some numbers. -/
import Derived.Test.YtohahlnhbppnhaaB
import Derived.Sort.AtCall
import Derived.Deep.RegionHeld3
import Derived.Laws.EntriesVeiled
namespace Go.Proofs.Ytohahlnhbppnhaa
open Go.RowKit
set_option linter.unusedSimpArgs false
set_option linter.unusedVariables false

/-- In how many marks two texts differ. -/
def apartM (T U : List Sen) : Nat := apartK (wordsOf T) (wordsOf U) 16

/-- A text whose marks are marks, and that is not too long. -/
def FineT (T : List Sen) : Prop := T.length ≤ 1000 ∧ (∀ s ∈ T, s.marks.length ≤ 1000) ∧ MarksOk T

theorem FineT.part {T : List Sen} (h : FineT T) (l k : Nat) : FineT ((T.drop l).take k) :=
  ⟨by have := h.1; simp; omega, fun s hs => h.2.1 s (List.mem_of_mem_drop (List.mem_of_mem_take hs)), fun s hs => h.2.2 s (List.mem_of_mem_drop (List.mem_of_mem_take hs))⟩

set_option maxRecDepth 100000 in
set_option maxHeartbeats 1000000 in
theorem apart_any (T U : List Sen) (x y i k : Int) (sx sy : Int) (n1 c1 n2 c2 : Nat) (a1 a2 : Option Addr) (w : World) (hT : T.length = n1) (hU : U.length = n2) (fT : FineT T) (fU : FineT U) (hS : TextAt w a1 T) (hR : TextAt w a2 U) :
    Calls Try.prog 85 #[.agg #[.int .i64 x, .int .i64 y, .slice a1 n1 c1, .int .u8 sx, .int .i64 i, .slice a2 n2 c2, .int .u8 sy, .int .i64 k]] w fun e w' => e = .returned (.int .i64 (apartM T U : Nat)) ∧ Below w.heap.size w w' := by
  have h1 : ∀ W, Below w.heap.size w W → Calls Try.prog 115 #[.slice a1 n1 c1] W fun e w' => e = .returned (.agg (wordsA (wordsOf T))) ∧ Below W.heap.size W w' := fun W hb => marks_any T n1 c1 a1 W hT (by have := fT.1; omega) fT.2.1 fT.2.2 (hS.grown hb)
  have h2 : ∀ W, Below w.heap.size w W → Calls Try.prog 115 #[.slice a2 n2 c2] W fun e w' => e = .returned (.agg (wordsA (wordsOf U))) ∧ Below W.heap.size W w' := fun W hb => marks_any U n2 c2 a2 W hU (by have := fU.1; omega) fU.2.1 fU.2.2 (hR.grown hb)
  have h3 : ∀ W, Calls Try.prog 116 #[.agg (wordsA (wordsOf T)), .agg (wordsA (wordsOf U))] W fun e w' => e = .returned (.int .i64 (apartM T U : Nat)) ∧ Below W.heap.size W w' := fun W => wapart_any _ _ W (wordsOf_ok T) (wordsOf_ok U)
  generalize wordsOf T = ws at h1 h3
  generalize wordsOf U = us at h2 h3
  generalize apartM T U = z at h3 ⊢
  clear hT hU fT fU hS hR
  go_enter Try.func85, Try.ntmps85
  go_wp2_with fail
  obtain ⟨W0, hW0⟩ : ∃ W, W = w.alloc (.cells #[.int .i64 x, .int .i64 y, .slice a1 n1 c1, .int .u8 sx, .int .i64 i, .slice a2 n2 c2, .int .u8 sy, .int .i64 k] 155) := ⟨_, rfl⟩
  have hB0 : Below w.heap.size w W0 := by rw [hW0]; exact below_alloc _ _
  have k1 : W0.cell? ⟨w.heap.size, 2, none⟩ = some (.slice a1 n1 c1) := by rw [hW0]; simp [go_sem]
  have k2 : W0.cell? ⟨w.heap.size, 5, none⟩ = some (.slice a2 n2 c2) := by rw [hW0]; simp [go_sem]
  rw [← hW0]
  clear hW0
  have o1 : ∀ p : Over W0, p.w.cell? ⟨w.heap.size, 2, none⟩ = some (.slice a1 n1 c1) := fun p => p.cell k1
  have o2 : ∀ p : Over W0, p.w.cell? ⟨w.heap.size, 5, none⟩ = some (.slice a2 n2 c2) := fun p => p.cell k2
  replace h1 : ∀ p : Over W0, _ := fun p => h1 p.w (below_then hB0 p.h)
  replace h2 : ∀ p : Over W0, _ := fun p => h2 p.w (below_then hB0 p.h)
  refine wp_region_over W0 (Below.refl _ _) (by kernel_rfl) (by kernel_rfl) ?_
  repeat (go_big_quiet_step (first | (go_at_call 116; exact Calls.over_of (h3 _)) | (go_at_call_has 115 a1; exact Calls.over_of (h1 _)) | (go_at_call_has 115 a2; exact Calls.over_of (h2 _))))
  refine wpQuiet_nil ?_
  intro wz hw'
  have hbz := over_below hw'
  clear hw' o1 o2 h1 h2 h3
  go_wp2
  go_ret
  exact ⟨rfl, below_then hB0 hbz⟩

/-- Where a part of a slice begins. -/
def subA (a : Option Addr) (cap l s : Nat) : Option Addr := if cap = l then a else a.map (·.add (l * s))

theorem Try.elem114 : Try.prog.elem 114 = 91 := by kernel_rfl

theorem slice114 (a : Option Addr) (n cap l h : Nat) (h1 : l ≤ h) (h2 : h ≤ cap) (W : World) :
    (Instr.slice 114 (.slice a n cap) (some (.int .i64 (l : Int))) (some (.int .i64 (h : Int))) none).run Try.prog W = .ok (.slice (subA a cap l 2) (h - l) (cap - l)) W := by
  rw [run_slice_lh (t := 114) (a := a) (len := n) (cap := cap) (ht := by rw [Try.elem114]; exact Try.underlying114) (kl := .i64) (kh := .i64) (l := (l : Int)) (h := (h : Int)) (h0 := by omega) (h1 := by omega) (h2 := by omega)]
  have hs : (sizeOf (Try.prog.elem 114)).run Try.prog W = .ok 2 W := by rw [Try.elem114]; exact Try.sizeOf91 W
  rw [hs]
  simp only [Result.andThen, sliced, Int.toNat_natCast]
  rfl

theorem TextAt.part {w : World} {a : Option Addr} {T : List Sen} (h : TextAt w a T) {n cap : Nat} (hn : T.length = n) (hc : n ≤ cap) (l k : Nat) (hlk : l + k ≤ n) : TextAt w (subA a cap l 2) ((T.drop l).take k) := by
  intro i hi
  have hk : i < k := by rw [List.length_take] at hi; omega
  obtain ⟨b, off, ma, mc, ha, h1, h2, h3⟩ := h (l + i) (by omega)
  have hg : ((T.drop l).take k).getD i default = T.getD (l + i) default := by
    simp only [List.getD_eq_getElem?_getD, List.getElem?_take, if_pos hk, List.getElem?_drop]
  rw [hg]
  refine ⟨b, off + l * 2, ma, mc, ?_, ?_, ?_, h3⟩
  · unfold subA
    rw [if_neg (by omega), ha]
    simp [Addr.add]
  · rw [← h1]
    congr 2
    omega
  · rw [← h2]
    congr 2
    omega

set_option maxRecDepth 100000 in
set_option maxHeartbeats 1000000 in
theorem part_any (n cap l k : Nat) (s : Int) (f : Nat) (a : Option Addr) (w : World) (hn : n ≤ 1000) (hf : f ≤ 1000) (hc : n ≤ cap) (hlk : l + k ≤ n) :
    Calls Try.prog 113 #[.agg #[.slice a n cap, .int .u8 s, .int .i64 (f : Int)], .int .i64 (l : Int), .int .i64 (k : Int)] w fun e w' => e = .returned (.agg #[.slice (subA a cap l 2) k (cap - l), .int .u8 s, .int .i64 ((f + l : Nat) : Int)]) ∧ Below w.heap.size w w' := by
  have hsl := fun W => slice114 a n cap l (l + k) (by omega) (by omega) W
  rw [show l + k - l = k by omega] at hsl
  rw [show ((l + k : Nat) : Int) = (l : Int) + (k : Int) by omega] at hsl
  go_enter Try.func113, Try.ntmps113
  go_wp2_with fail
  go_region
  go_wp2_with fail
  exact bodyPost_ret (v := .agg #[.slice (subA a cap l 2) k (cap - l), .int .u8 s, .int .i64 ((f : Int) + l)]) (by simp [results, Try.f113, go_sem]) rfl ⟨by simp, (((Below.refl _ w).alloc (Nat.le_refl _) _).alloc (by simp) _).drew⟩

set_option maxRecDepth 100000 in
set_option maxHeartbeats 1000000 in
theorem end_any (n cap f : Nat) (s : Int) (a : Option Addr) (w : World) (hn : n ≤ 1000) (hf : f ≤ 1000) :
    Calls Try.prog 114 #[.agg #[.slice a n cap, .int .u8 s, .int .i64 (f : Int)]] w fun e w' => e = .returned (.int .i64 ((f + n : Nat) : Int)) ∧ Below w.heap.size w w' := by
  go_enter Try.func114, Try.ntmps114
  go_wp2_with fail
  go_ret
  exact ⟨by simp, below_alloc _ _⟩

theorem cell_set2 {X : World} {b b' o o1 o2 : Nat} {v u1 u2 : Value} (h : b ≠ b') (hc : X.cell? ⟨b, o, none⟩ = some v) : ((X.setCell ⟨b', o1, none⟩ u1).setCell ⟨b', o2, none⟩ u2).cell? ⟨b, o, none⟩ = some v := by
  rw [World.cell?_setCell_other _ _ _ _ (by simp [h]), World.cell?_setCell_other _ _ _ _ (by simp [h])]
  exact hc

theorem cell_drew {X : World} {b o : Nat} {v : Value} (hc : X.cell? ⟨b, o, none⟩ = some v) : X.drew.cell? ⟨b, o, none⟩ = some v := hc

theorem cell_setB1 {X : World} {b : Nat} {x u v : Value} (hc : X.cell? ⟨b, 0, none⟩ = some x) : ((X.setCell ⟨b, 0, none⟩ u).setCell ⟨b, 1, none⟩ v).cell? ⟨b, 0, none⟩ = some u := by
  rw [World.cell?_setCell_other _ _ _ _ (by simp)]
  exact World.cell?_setCell_same' _ _ _ (by rw [hc]; rfl)

theorem cell_setB2 {X : World} {b : Nat} {x u v : Value} (hc : X.cell? ⟨b, 1, none⟩ = some x) : ((X.setCell ⟨b, 0, none⟩ u).setCell ⟨b, 1, none⟩ v).cell? ⟨b, 1, none⟩ = some v := by
  refine World.cell?_setCell_same' _ _ _ ?_
  rw [World.cell?_setCell_other _ _ _ _ (by simp), hc]
  rfl

set_option maxRecDepth 100000 in
set_option maxHeartbeats 1000000 in
theorem behind_any (x y : Int) (sx sy : Int) (n1 c1 i n2 c2 k : Nat) (a1 a2 : Option Addr) (w : World) (h1 : n1 ≤ 1000) (h2 : n2 ≤ 1000) (hi : i ≤ 1000) (hk : k ≤ 1000) :
    Calls Try.prog 82 #[.agg #[.int .i64 x, .int .i64 y, .slice a1 n1 c1, .int .u8 sx, .int .i64 (i : Int), .slice a2 n2 c2, .int .u8 sy, .int .i64 (k : Int)]] w fun e w' => e = .returned (.agg #[.int .i64 ((i + n1 : Nat) : Int), .int .i64 ((k + n2 : Nat) : Int)]) ∧ Below w.heap.size w w' := by
  have e1 := fun W => end_any n1 c1 i sx a1 W h1 hi
  have e2 := fun W => end_any n2 c2 k sy a2 W h2 hk
  generalize i + n1 = u at e1 ⊢
  generalize k + n2 = v at e2 ⊢
  obtain ⟨W0, hW0⟩ : ∃ W, W = (w.alloc (.cells #[.int .i64 x, .int .i64 y, .slice a1 n1 c1, .int .u8 sx, .int .i64 (i : Int), .slice a2 n2 c2, .int .u8 sy, .int .i64 (k : Int)] 155)).alloc (.cells #[.int .i64 0, .int .i64 0] 150) := ⟨_, rfl⟩
  have HB : Hid (Below w.heap.size w W0) := hid (by rw [hW0]; exact ((Below.refl _ w).alloc (Nat.le_refl _) _).alloc (by simp) _)
  have x2 : W0.cell? ⟨w.heap.size, 2, none⟩ = some (.slice a1 n1 c1) := by rw [hW0]; simp [go_sem]
  have x3 : W0.cell? ⟨w.heap.size, 3, none⟩ = some (.int .u8 sx) := by rw [hW0]; simp [go_sem]
  have x4 : W0.cell? ⟨w.heap.size, 4, none⟩ = some (.int .i64 (i : Int)) := by rw [hW0]; simp [go_sem]
  have x5 : W0.cell? ⟨w.heap.size, 5, none⟩ = some (.slice a2 n2 c2) := by rw [hW0]; simp [go_sem]
  have x6 : W0.cell? ⟨w.heap.size, 6, none⟩ = some (.int .u8 sy) := by rw [hW0]; simp [go_sem]
  have x7 : W0.cell? ⟨w.heap.size, 7, none⟩ = some (.int .i64 (k : Int)) := by rw [hW0]; simp [go_sem]
  have hr : W0.rowIs (w.heap.size + 1) 150 2 (fun _ => .int .i64 0) := by
    rw [hW0]
    have := World.rowIs_alloc (w.alloc (.cells #[.int .i64 x, .int .i64 y, .slice a1 n1 c1, .int .u8 sx, .int .i64 (i : Int), .slice a2 n2 c2, .int .u8 sy, .int .i64 (k : Int)] 155)) #[.int .i64 0, .int .i64 0] 150 (fun _ => .int .i64 0) (fun i hi => by
      have h : i < 2 := hi
      iterate 2 (rcases i with _ | i; · rfl)
      omega)
    rwa [World.size_alloc] at this
  go_enter Try.func82, Try.ntmps82
  go_wp2_with fail
  rw [← hW0]
  clear hW0
  have hnn : w.heap.size ≠ w.heap.size + 1 := by omega
  have hBd : Below W0.heap.size W0 W0.drew := (Below.refl _ _).drew
  go_region_held3 (fun w' : World => w'.cell? ⟨w.heap.size, 2, none⟩ = some (.slice a1 n1 c1) ∧ w'.cell? ⟨w.heap.size, 3, none⟩ = some (.int .u8 sx) ∧ w'.cell? ⟨w.heap.size, 4, none⟩ = some (.int .i64 (i : Int)) ∧ w'.cell? ⟨w.heap.size, 5, none⟩ = some (.slice a2 n2 c2) ∧ w'.cell? ⟨w.heap.size, 6, none⟩ = some (.int .u8 sy) ∧ w'.cell? ⟨w.heap.size, 7, none⟩ = some (.int .i64 (k : Int))) (first | with_reducible exact ⟨x2, x3, x4, x5, x6, x7⟩ | with_reducible exact ⟨cell_drew x2, cell_drew x3, cell_drew x4, cell_drew x5, cell_drew x6, cell_drew x7⟩ | with_reducible exact ⟨cell_set2 hnn x2, cell_set2 hnn x3, cell_set2 hnn x4, cell_set2 hnn x5, cell_set2 hnn x6, cell_set2 hnn x7⟩) (first | (go_at_call_has 114 a1; replace x2 := cell_grown hBd x2; replace x3 := cell_grown hBd x3; replace x4 := cell_grown hBd x4; replace x5 := cell_grown hBd x5; replace x6 := cell_grown hBd x6; replace x7 := cell_grown hBd x7; replace hr := hr.of_block (hBd.block _ hr.lt); replace HB := hid (below_then HB.out hBd); refine (e1 _).mono ?_; rintro e wl1 ⟨rfl, hb1⟩; replace x2 := cell_grown hb1 x2; replace x3 := cell_grown hb1 x3; replace x4 := cell_grown hb1 x4; replace x5 := cell_grown hb1 x5; replace x6 := cell_grown hb1 x6; replace x7 := cell_grown hb1 x7; replace hr := hr.of_block (hb1.block _ hr.lt); replace HB := hid (below_then HB.out hb1)) | (go_at_call_has 114 a2; refine (e2 _).mono ?_; rintro e wl2 ⟨rfl, hb2⟩; replace x2 := cell_grown hb2 x2; replace x3 := cell_grown hb2 x3; replace x4 := cell_grown hb2 x4; replace x5 := cell_grown hb2 x5; replace x6 := cell_grown hb2 x6; replace x7 := cell_grown hb2 x7; replace hr := hr.of_block (hb2.block _ hr.lt); replace HB := hid (below_then HB.out hb2); have q0 := hr.cell (i := 0) (by decide); have q1 := hr.cell (i := 1) (by decide); have f0 := hr.frozen 0; have f1 := hr.frozen 1; have gl := hr.lt))
  have p0 := cell_setB1 (X := wl2) (b := w.heap.size + 1) (u := .int .i64 (u : Int)) (v := .int .i64 (v : Int)) q0
  have p1 := cell_setB2 (X := wl2) (b := w.heap.size + 1) (u := .int .i64 (u : Int)) (v := .int .i64 (v : Int)) q1
  have HB3 := hid ((HB.out.setCell (p := ⟨w.heap.size + 1, 0, none⟩) (by simp) (.int .i64 (u : Int))).setCell (p := ⟨w.heap.size + 1, 1, none⟩) (by simp) (.int .i64 (v : Int)))
  generalize (wl2.setCell ⟨w.heap.size + 1, 0, none⟩ (.int .i64 (u : Int))).setCell ⟨w.heap.size + 1, 1, none⟩ (.int .i64 (v : Int)) = WF at p0 p1 HB3 ⊢
  go_wp2_with fail
  exact bodyPost_ret (v := .agg #[.int .i64 (u : Int), .int .i64 (v : Int)]) (by simp [results, Try.f82, go_sem, p0, p1]) rfl ⟨rfl, HB3.out⟩

set_option maxRecDepth 100000 in
set_option maxHeartbeats 1000000 in
theorem pend_any (sx sy : Int) (n1 c1 i n2 c2 k : Nat) (a1 a2 : Option Addr) (ca : Option Addr) (cn cc : Nat) (w : World) (h1 : n1 ≤ 1000) (h2 : n2 ≤ 1000) (hi : i ≤ 1000) (hk : k ≤ 1000) :
    Calls Try.prog 84 #[.agg #[.slice a1 n1 c1, .int .u8 sx, .int .i64 (i : Int), .slice a2 n2 c2, .int .u8 sy, .int .i64 (k : Int), .slice ca cn cc]] w fun e w' => e = .returned (.agg #[.int .i64 ((i + n1 : Nat) : Int), .int .i64 ((k + n2 : Nat) : Int)]) ∧ Below w.heap.size w w' := by
  have e1 := fun W => end_any n1 c1 i sx a1 W h1 hi
  have e2 := fun W => end_any n2 c2 k sy a2 W h2 hk
  generalize i + n1 = u at e1 ⊢
  generalize k + n2 = v at e2 ⊢
  obtain ⟨W0, hW0⟩ : ∃ W, W = (w.alloc (.cells #[.slice a1 n1 c1, .int .u8 sx, .int .i64 (i : Int), .slice a2 n2 c2, .int .u8 sy, .int .i64 (k : Int), .slice ca cn cc] 119)).alloc (.cells #[.int .i64 0, .int .i64 0] 150) := ⟨_, rfl⟩
  have HB : Hid (Below w.heap.size w W0) := hid (by rw [hW0]; exact ((Below.refl _ w).alloc (Nat.le_refl _) _).alloc (by simp) _)
  have x0 : W0.cell? ⟨w.heap.size, 0, none⟩ = some (.slice a1 n1 c1) := by rw [hW0]; simp [go_sem]
  have x1 : W0.cell? ⟨w.heap.size, 1, none⟩ = some (.int .u8 sx) := by rw [hW0]; simp [go_sem]
  have x2 : W0.cell? ⟨w.heap.size, 2, none⟩ = some (.int .i64 (i : Int)) := by rw [hW0]; simp [go_sem]
  have x3 : W0.cell? ⟨w.heap.size, 3, none⟩ = some (.slice a2 n2 c2) := by rw [hW0]; simp [go_sem]
  have x4 : W0.cell? ⟨w.heap.size, 4, none⟩ = some (.int .u8 sy) := by rw [hW0]; simp [go_sem]
  have x5 : W0.cell? ⟨w.heap.size, 5, none⟩ = some (.int .i64 (k : Int)) := by rw [hW0]; simp [go_sem]
  have hr : W0.rowIs (w.heap.size + 1) 150 2 (fun _ => .int .i64 0) := by
    rw [hW0]
    have := World.rowIs_alloc (w.alloc (.cells #[.slice a1 n1 c1, .int .u8 sx, .int .i64 (i : Int), .slice a2 n2 c2, .int .u8 sy, .int .i64 (k : Int), .slice ca cn cc] 119)) #[.int .i64 0, .int .i64 0] 150 (fun _ => .int .i64 0) (fun i hi => by
      have h : i < 2 := hi
      iterate 2 (rcases i with _ | i; · rfl)
      omega)
    rwa [World.size_alloc] at this
  go_enter Try.func84, Try.ntmps84
  go_wp2_with fail
  rw [← hW0]
  clear hW0
  have hnn : w.heap.size ≠ w.heap.size + 1 := by omega
  have hBd : Below W0.heap.size W0 W0.drew := (Below.refl _ _).drew
  go_region_held3 (fun w' : World => w'.cell? ⟨w.heap.size, 0, none⟩ = some (.slice a1 n1 c1) ∧ w'.cell? ⟨w.heap.size, 1, none⟩ = some (.int .u8 sx) ∧ w'.cell? ⟨w.heap.size, 2, none⟩ = some (.int .i64 (i : Int)) ∧ w'.cell? ⟨w.heap.size, 3, none⟩ = some (.slice a2 n2 c2) ∧ w'.cell? ⟨w.heap.size, 4, none⟩ = some (.int .u8 sy) ∧ w'.cell? ⟨w.heap.size, 5, none⟩ = some (.int .i64 (k : Int))) (first | with_reducible exact ⟨x0, x1, x2, x3, x4, x5⟩ | with_reducible exact ⟨cell_drew x0, cell_drew x1, cell_drew x2, cell_drew x3, cell_drew x4, cell_drew x5⟩ | with_reducible exact ⟨cell_set2 hnn x0, cell_set2 hnn x1, cell_set2 hnn x2, cell_set2 hnn x3, cell_set2 hnn x4, cell_set2 hnn x5⟩) (first | (go_at_call_has 114 a1; replace x0 := cell_grown hBd x0; replace x1 := cell_grown hBd x1; replace x2 := cell_grown hBd x2; replace x3 := cell_grown hBd x3; replace x4 := cell_grown hBd x4; replace x5 := cell_grown hBd x5; replace hr := hr.of_block (hBd.block _ hr.lt); replace HB := hid (below_then HB.out hBd); refine (e1 _).mono ?_; rintro e wl1 ⟨rfl, hb1⟩; replace x0 := cell_grown hb1 x0; replace x1 := cell_grown hb1 x1; replace x2 := cell_grown hb1 x2; replace x3 := cell_grown hb1 x3; replace x4 := cell_grown hb1 x4; replace x5 := cell_grown hb1 x5; replace hr := hr.of_block (hb1.block _ hr.lt); replace HB := hid (below_then HB.out hb1)) | (go_at_call_has 114 a2; refine (e2 _).mono ?_; rintro e wl2 ⟨rfl, hb2⟩; replace x0 := cell_grown hb2 x0; replace x1 := cell_grown hb2 x1; replace x2 := cell_grown hb2 x2; replace x3 := cell_grown hb2 x3; replace x4 := cell_grown hb2 x4; replace x5 := cell_grown hb2 x5; replace hr := hr.of_block (hb2.block _ hr.lt); replace HB := hid (below_then HB.out hb2); have q0 := hr.cell (i := 0) (by decide); have q1 := hr.cell (i := 1) (by decide); have f0 := hr.frozen 0; have f1 := hr.frozen 1; have gl := hr.lt))
  have p0 := cell_setB1 (X := wl2) (b := w.heap.size + 1) (u := .int .i64 (u : Int)) (v := .int .i64 (v : Int)) q0
  have p1 := cell_setB2 (X := wl2) (b := w.heap.size + 1) (u := .int .i64 (u : Int)) (v := .int .i64 (v : Int)) q1
  have HB3 := hid ((HB.out.setCell (p := ⟨w.heap.size + 1, 0, none⟩) (by simp) (.int .i64 (u : Int))).setCell (p := ⟨w.heap.size + 1, 1, none⟩) (by simp) (.int .i64 (v : Int)))
  generalize (wl2.setCell ⟨w.heap.size + 1, 0, none⟩ (.int .i64 (u : Int))).setCell ⟨w.heap.size + 1, 1, none⟩ (.int .i64 (v : Int)) = WF at p0 p1 HB3 ⊢
  go_wp2_with fail
  exact bodyPost_ret (v := .agg #[.int .i64 (u : Int), .int .i64 (v : Int)]) (by simp [results, Try.f84, go_sem, p0, p1]) rfl ⟨rfl, HB3.out⟩

end Go.Proofs.Ytohahlnhbppnhaa

namespace Go.Proofs.Ytohahlnhbppnhaa
open Go.RowKit
set_option linter.unusedSimpArgs false
set_option linter.unusedVariables false

/-- What steps cost, as it lies in memory. -/
structure ChargesAt (w : World) (b b0 b2 : Nat) : Prop where
  c0 : w.cell? ⟨b, 0, none⟩ = some (.int .i64 2)
  c1 : w.cell? ⟨b, 1, none⟩ = some (.func (.func 85) #[] #[])
  c2 : w.cell? ⟨b, 2, none⟩ = some (.int .i64 3)
  c3 : w.cell? ⟨b, 3, none⟩ = some (.func (.func 110) #[] #[.pointer (some ⟨b0, 0, none⟩)])
  c4 : w.cell? ⟨b, 4, none⟩ = some (.int .i64 1)
  c5 : w.cell? ⟨b, 5, none⟩ = some (.func (.func 110) #[] #[.pointer (some ⟨b2, 0, none⟩)])
  z0 : w.cell? ⟨b0, 0, none⟩ = some (.int .i64 0)
  z2 : w.cell? ⟨b2, 0, none⟩ = some (.int .i64 2)

theorem ChargesAt.grown {w w' : World} {b b0 b2 : Nat} (h : ChargesAt w b b0 b2) (hb : Below w.heap.size w w') : ChargesAt w' b b0 b2 :=
  ⟨cell_grown hb h.c0, cell_grown hb h.c1, cell_grown hb h.c2, cell_grown hb h.c3, cell_grown hb h.c4, cell_grown hb h.c5, cell_grown hb h.z0, cell_grown hb h.z2⟩

set_option maxRecDepth 100000 in
set_option maxHeartbeats 1000000 in
theorem charges_any (w : World) : Calls Try.prog 77 #[] w fun e w' => ∃ b b0 b2, e = .returned (.slice (some ⟨b, 0, none⟩) 3 3) ∧ ChargesAt w' b b0 b2 ∧ Below w.heap.size w w' := by
  go_enter Try.func77, Try.ntmps77
  go_wp2_with go_in
  obtain ⟨W0, hW0⟩ : ∃ W, W = ((w.alloc (.cells #[.int .i64 0] 3)).alloc (.cells #[.int .i64 2] 3)).alloc (.cells #[.int .i64 2, .func (.func 85) #[] #[], .int .i64 3, .func (.func 110) #[] #[.pointer (some ⟨w.heap.size, 0, none⟩)], .int .i64 1, .func (.func 110) #[] #[.pointer (some ⟨w.heap.size + 1, 0, none⟩)]] 181) := ⟨_, rfl⟩
  have hB0 : Below w.heap.size w W0 := by rw [hW0]; exact (((Below.refl _ w).alloc (Nat.le_refl _) _).alloc (by simp) _).alloc (by simp; omega) _
  have hc : ChargesAt W0 (w.heap.size + 1 + 1) w.heap.size (w.heap.size + 1) := by
    rw [hW0]
    constructor <;> simp [go_sem]
  rw [← hW0]
  clear hW0
  go_ret
  exact ⟨_, _, _, rfl, hc, hB0⟩

/-- On how many sides of a step are so many sentences? -/
def sidesM (n x y : Nat) : Nat := (if x = n then 1 else 0) + (if y = n then 1 else 0)

def cntM (n x y : Nat) : Nat → Nat
  | 0 => 0
  | 1 => if x = n then 1 else 0
  | _ => sidesM n x y

set_option maxRecDepth 100000 in
set_option maxHeartbeats 1000000 in
theorem sides_any (x y n : Nat) (sx sy : Int) (n1 c1 n2 c2 b0 : Nat) (i k : Int) (a1 a2 : Option Addr) (w : World) (hx : x ≤ 2) (hy : y ≤ 2) (hn : n ≤ 2) (h0 : w.cell? ⟨b0, 0, none⟩ = some (.int .i64 (n : Int))) :
    Calls Try.prog 110 #[.agg #[.int .i64 (x : Int), .int .i64 (y : Int), .slice a1 n1 c1, .int .u8 sx, .int .i64 i, .slice a2 n2 c2, .int .u8 sy, .int .i64 k], .pointer (some ⟨b0, 0, none⟩)] w fun e w' => e = .returned (.int .i64 (sidesM n x y : Nat)) ∧ Below w.heap.size w w' := by
  have hb0 := lt_of_cell h0
  go_enter Try.func110, Try.ntmps110
  go_wp2_with fail
  obtain ⟨W0, hW0⟩ : ∃ W, W = (w.alloc (.cells #[.int .i64 (x : Int), .int .i64 (y : Int), .slice a1 n1 c1, .int .u8 sx, .int .i64 i, .slice a2 n2 c2, .int .u8 sy, .int .i64 k] 155)).alloc (.cells #[.int .i64 (x : Int), .int .i64 (y : Int)] 3) := ⟨_, rfl⟩
  have hB0 : Below w.heap.size w W0 := by rw [hW0]; exact ((Below.refl _ w).alloc (Nat.le_refl _) _).alloc (by simp) _
  have p0 : W0.cell? ⟨w.heap.size + 1, 0, none⟩ = some (.int .i64 (x : Int)) := by rw [hW0]; simp [go_sem]
  have p1 : W0.cell? ⟨w.heap.size + 1, 1, none⟩ = some (.int .i64 (y : Int)) := by rw [hW0]; simp [go_sem]
  rw [← hW0]
  clear hW0
  replace h0 := cell_grown hB0 h0
  go_loopw [4, 6, 15] (fun c _ j wr => ∃ m : Nat, m ≤ 2 ∧ j = .int .i64 m ∧ c = .int .i64 (cntM n x y m : Nat) ∧ Below W0.heap.size W0 wr) (fun _ _ j _ => 2 - (intOf j).toNat)
  case atStart => exact ⟨0, by omega, rfl, rfl, Below.refl _ _⟩
  case round =>
    obtain ⟨m, hm, rfl, rfl, hB⟩ := hrel
    have q0 := cell_grown hB p0
    have q1 := cell_grown hB p1
    have qn := cell_grown hB h0
    have g0 := lt_of_cell q0
    have gn := lt_of_cell qn
    have hm' : m = 0 ∨ m = 1 ∨ m = 2 := by omega
    rcases hm' with rfl | rfl | rfl
    · rw [show cntM n x y 0 = 0 from rfl]
      by_cases hxn : x = n
      · have e : cntM n x y 1 = 1 := by simp [cntM, hxn]
        have hxi : ((x : Int) == (n : Int)) = true := by simp [hxn]
        have HE := hid e
        clear e
        go_wp2_with fail
        go_roundw
        case rel => exact ⟨1, by omega, by go_num, by rw [HE.out]; simp, hB⟩
        case measure => simp [intOf]
      · have e : cntM n x y 1 = 0 := by simp [cntM, hxn]
        have hxi : ((x : Int) == (n : Int)) = false := by simp; omega
        have HE := hid e
        clear e
        go_wp2_with fail
        go_roundw
        case rel => exact ⟨1, by omega, by go_num, by rw [HE.out], hB⟩
        case measure => simp [intOf]
    · obtain ⟨c, hc⟩ : ∃ c, c = cntM n x y 1 := ⟨_, rfl⟩
      rw [← hc]
      have hc1 : c ≤ 1 := by rw [hc]; simp only [cntM]; split <;> omega
      by_cases hyn : y = n
      · have e : cntM n x y 2 = c + 1 := by rw [hc]; simp [cntM, sidesM, hyn]
        have hxi : ((y : Int) == (n : Int)) = true := by simp [hyn]
        have HE := hid e
        clear e hc
        go_wp2_with fail
        go_roundw
        case rel => exact ⟨2, by omega, by go_num, by rw [HE.out]; simp, hB⟩
        case measure => simp [intOf]
      · have e : cntM n x y 2 = c := by rw [hc]; simp [cntM, sidesM, hyn]
        have hxi : ((y : Int) == (n : Int)) = false := by simp; omega
        have HE := hid e
        clear e hc
        go_wp2_with fail
        go_roundw
        case rel => exact ⟨2, by omega, by go_num, by rw [HE.out], hB⟩
        case measure => simp [intOf]
    · go_wp2_with fail
      go_ret
      exact ⟨rfl, below_then hB0 hB⟩

/-- What a step costs. -/
def priceM (x y : Nat) (T U : List Sen) : Nat := 2 * apartM T U + 3 * sidesM 0 x y + sidesM 2 x y

def paidM (x y : Nat) (T U : List Sen) : Nat → Nat
  | 0 => 0
  | 1 => 2 * apartM T U
  | 2 => 2 * apartM T U + 3 * sidesM 0 x y
  | _ => priceM x y T U

theorem sidesM_le (n x y : Nat) : sidesM n x y ≤ 2 := by
  unfold sidesM
  split <;> split <;> omega

theorem apartM_le (T U : List Sen) : apartM T U ≤ 1024 := apartK_le _ _ 16

set_option maxRecDepth 100000 in
set_option maxHeartbeats 1000000 in
theorem price_any (T U : List Sen) (x y : Nat) (sx sy ps1 ps2 : Int) (n1 c1 n2 c2 b b0 b2 m1 k1 m2 k2 : Nat) (i k i1 i2 : Int) (a1 a2 l1 l2 : Option Addr) (w : World) (hx : x ≤ 2) (hy : y ≤ 2)
    (hT : T.length = n1) (hU : U.length = n2) (fT : FineT T) (fU : FineT U) (hS : TextAt w a1 T) (hR : TextAt w a2 U) (hC : ChargesAt w b b0 b2) :
    Calls Try.prog 81 #[.agg #[.slice l1 m1 k1, .int .u8 ps1, .int .i64 i1, .slice l2 m2 k2, .int .u8 ps2, .int .i64 i2, .slice (some ⟨b, 0, none⟩) 3 3], .agg #[.int .i64 (x : Int), .int .i64 (y : Int), .slice a1 n1 c1, .int .u8 sx, .int .i64 i, .slice a2 n2 c2, .int .u8 sy, .int .i64 k]] w fun e w' =>
      e = .returned (.int .i64 (priceM x y T U : Nat)) ∧ Below w.heap.size w w' := by
  go_enter Try.func81, Try.ntmps81
  go_wp2_with fail
  obtain ⟨W0, hW0⟩ : ∃ W, W = (w.alloc (.cells #[.slice l1 m1 k1, .int .u8 ps1, .int .i64 i1, .slice l2 m2 k2, .int .u8 ps2, .int .i64 i2, .slice (some ⟨b, 0, none⟩) 3 3] 119)).alloc (.cells #[.int .i64 (x : Int), .int .i64 (y : Int), .slice a1 n1 c1, .int .u8 sx, .int .i64 i, .slice a2 n2 c2, .int .u8 sy, .int .i64 k] 155) := ⟨_, rfl⟩
  have hB0 : Below w.heap.size w W0 := by rw [hW0]; exact ((Below.refl _ w).alloc (Nat.le_refl _) _).alloc (by simp) _
  have d0 : W0.cell? ⟨w.heap.size + 1, 0, none⟩ = some (.int .i64 (x : Int)) := by rw [hW0]; simp [go_sem]
  have d1 : W0.cell? ⟨w.heap.size + 1, 1, none⟩ = some (.int .i64 (y : Int)) := by rw [hW0]; simp [go_sem]
  have d2 : W0.cell? ⟨w.heap.size + 1, 2, none⟩ = some (.slice a1 n1 c1) := by rw [hW0]; simp [go_sem]
  have d3 : W0.cell? ⟨w.heap.size + 1, 3, none⟩ = some (.int .u8 sx) := by rw [hW0]; simp [go_sem]
  have d4 : W0.cell? ⟨w.heap.size + 1, 4, none⟩ = some (.int .i64 i) := by rw [hW0]; simp [go_sem]
  have d5 : W0.cell? ⟨w.heap.size + 1, 5, none⟩ = some (.slice a2 n2 c2) := by rw [hW0]; simp [go_sem]
  have d6 : W0.cell? ⟨w.heap.size + 1, 6, none⟩ = some (.int .u8 sy) := by rw [hW0]; simp [go_sem]
  have d7 : W0.cell? ⟨w.heap.size + 1, 7, none⟩ = some (.int .i64 k) := by rw [hW0]; simp [go_sem]
  rw [← hW0]
  clear hW0
  have hap : ∀ W, Below w.heap.size w W → Calls Try.prog 85 #[.agg #[.int .i64 (x : Int), .int .i64 (y : Int), .slice a1 n1 c1, .int .u8 sx, .int .i64 i, .slice a2 n2 c2, .int .u8 sy, .int .i64 k]] W fun e w' => e = .returned (.int .i64 (apartM T U : Nat)) ∧ Below W.heap.size W w' := fun W hb => apart_any T U x y i k sx sy n1 c1 n2 c2 a1 a2 W hT hU fT fU (hS.grown hb) (hR.grown hb)
  have hs0 : ∀ W, Below w.heap.size w W → Calls Try.prog 110 #[.agg #[.int .i64 (x : Int), .int .i64 (y : Int), .slice a1 n1 c1, .int .u8 sx, .int .i64 i, .slice a2 n2 c2, .int .u8 sy, .int .i64 k], .pointer (some ⟨b0, 0, none⟩)] W fun e w' => e = .returned (.int .i64 (sidesM 0 x y : Nat)) ∧ Below W.heap.size W w' := fun W hb => sides_any x y 0 sx sy n1 c1 n2 c2 b0 i k a1 a2 W hx hy (by omega) (cell_grown hb hC.z0)
  have hs2 : ∀ W, Below w.heap.size w W → Calls Try.prog 110 #[.agg #[.int .i64 (x : Int), .int .i64 (y : Int), .slice a1 n1 c1, .int .u8 sx, .int .i64 i, .slice a2 n2 c2, .int .u8 sy, .int .i64 k], .pointer (some ⟨b2, 0, none⟩)] W fun e w' => e = .returned (.int .i64 (sidesM 2 x y : Nat)) ∧ Below W.heap.size W w' := fun W hb => sides_any x y 2 sx sy n1 c1 n2 c2 b2 i k a1 a2 W hx hy (by omega) (cell_grown hb hC.z2)
  have HP : Hid (priceM x y T U = 2 * apartM T U + 3 * sidesM 0 x y + sidesM 2 x y) := hid rfl
  have HP1 : Hid (paidM x y T U 1 = 2 * apartM T U) := hid rfl
  have HP2 : Hid (paidM x y T U 2 = 2 * apartM T U + 3 * sidesM 0 x y) := hid rfl
  have HP3 : Hid (paidM x y T U 3 = priceM x y T U) := hid rfl
  have l1' := apartM_le T U
  have l2' := sidesM_le 0 x y
  have l3' := sidesM_le 2 x y
  clear hT hU fT fU hS hR
  go_loopw [5, 7, 11, 13, 14] (fun c _ j _ _ wr => ∃ m : Nat, m ≤ 3 ∧ j = .int .i64 m ∧ c = .int .i64 (paidM x y T U m : Nat) ∧ Below W0.heap.size W0 wr) (fun _ _ j _ _ _ => 3 - (intOf j).toNat)
  case atStart => exact ⟨0, by omega, rfl, rfl, Below.refl _ _⟩
  case round =>
    obtain ⟨m, hm, rfl, rfl, hB⟩ := hrel
    have hB3 := below_then hB0 hB
    have hm' : m = 0 ∨ m = 1 ∨ m = 2 ∨ m = 3 := by omega
    rcases hm' with rfl | rfl | rfl | rfl
    · have v0 := (hC.grown hB3).c0
      have v1 := (hC.grown hB3).c1
      have gv := lt_of_cell v0
      rw [show paidM x y T U 0 = 0 from rfl]
      obtain ⟨z, hz⟩ : ∃ z, z = apartM T U := ⟨_, rfl⟩
      rw [← hz] at hap
      have hzl : z ≤ 1024 := by omega
      obtain ⟨p, hp⟩ : ∃ p, p = 0 := ⟨_, rfl⟩
      have hpl : p ≤ 3000 := by omega
      have HS : Hid (paidM x y T U 1 = p + 2 * z) := hid (by rw [HP1.out, hp, hz]; all_goals omega)
      have hp0 : p = 0 := hp
      clear hz hp
      go_wp2_with fail
      obtain ⟨W1, hW1⟩ : ∃ W, W = wr.alloc (.cells #[.int .i64 2, .func (.func 85) #[] #[]] 181) := ⟨_, rfl⟩
      have hB1 : Below wr.heap.size wr W1 := by rw [hW1]; exact below_alloc _ _
      have r0 : W1.cell? ⟨wr.heap.size, 0, none⟩ = some (.int .i64 2) := by rw [hW1]; simp [go_sem]
      have r1 : W1.cell? ⟨wr.heap.size, 1, none⟩ = some (.func (.func 85) #[] #[]) := by rw [hW1]; simp [go_sem]
      rw [← hW1]
      clear hW1
      have hBw := below_then hB hB1
      have o0 : ∀ p : Over W1, p.w.cell? ⟨wr.heap.size, 0, none⟩ = some (.int .i64 2) := fun p => p.cell r0
      have o1 : ∀ p : Over W1, p.w.cell? ⟨wr.heap.size, 1, none⟩ = some (.func (.func 85) #[] #[]) := fun p => p.cell r1
      have k0 : ∀ p : Over W1, p.w.cell? ⟨w.heap.size + 1, 0, none⟩ = some (.int .i64 (x : Int)) := fun p => p.cell (cell_grown hBw d0)
      have k1 : ∀ p : Over W1, p.w.cell? ⟨w.heap.size + 1, 1, none⟩ = some (.int .i64 (y : Int)) := fun p => p.cell (cell_grown hBw d1)
      have k2 : ∀ p : Over W1, p.w.cell? ⟨w.heap.size + 1, 2, none⟩ = some (.slice a1 n1 c1) := fun p => p.cell (cell_grown hBw d2)
      have k3 : ∀ p : Over W1, p.w.cell? ⟨w.heap.size + 1, 3, none⟩ = some (.int .u8 sx) := fun p => p.cell (cell_grown hBw d3)
      have k4 : ∀ p : Over W1, p.w.cell? ⟨w.heap.size + 1, 4, none⟩ = some (.int .i64 i) := fun p => p.cell (cell_grown hBw d4)
      have k5 : ∀ p : Over W1, p.w.cell? ⟨w.heap.size + 1, 5, none⟩ = some (.slice a2 n2 c2) := fun p => p.cell (cell_grown hBw d5)
      have k6 : ∀ p : Over W1, p.w.cell? ⟨w.heap.size + 1, 6, none⟩ = some (.int .u8 sy) := fun p => p.cell (cell_grown hBw d6)
      have k7 : ∀ p : Over W1, p.w.cell? ⟨w.heap.size + 1, 7, none⟩ = some (.int .i64 k) := fun p => p.cell (cell_grown hBw d7)
      have hc : ∀ p : Over W1, _ := fun p => hap p.w (below_then (below_then hB0 hBw) p.h)
      refine wp_region_over W1 (Below.refl _ _) (by kernel_rfl) (by kernel_rfl) ?_
      repeat (go_big_quiet_step (first | (go_at_call 85; exact Calls.over_of (hc _))))
      refine wpQuiet_nil ?_
      intro wz hw'
      have hbz := over_below hw'
      clear hw' o0 o1 k0 k1 k2 k3 k4 k5 k6 k7 hc
      go_wp2_with fail
      go_roundw
      case rel => exact ⟨1, by omega, by go_num, by rw [HS.out]; simp [hp0], below_then hBw hbz⟩
      case measure => simp [intOf]
    · have v0 := (hC.grown hB3).c2
      have v1 := (hC.grown hB3).c3
      have gv := lt_of_cell v0
      rw [HP1.out]
      obtain ⟨z, hz⟩ : ∃ z, z = sidesM 0 x y := ⟨_, rfl⟩
      rw [← hz] at hs0
      have hzl : z ≤ 2 := by omega
      obtain ⟨p, hp⟩ : ∃ p, p = 2 * apartM T U := ⟨_, rfl⟩
      have hpl : p ≤ 3000 := by omega
      have HS : Hid (paidM x y T U 2 = p + 3 * z) := hid (by rw [HP2.out, hp, hz]; all_goals omega)
      rw [← hp]
      clear hz hp
      go_wp2_with fail
      obtain ⟨W1, hW1⟩ : ∃ W, W = wr.alloc (.cells #[.int .i64 3, .func (.func 110) #[] #[.pointer (some ⟨b0, 0, none⟩)]] 181) := ⟨_, rfl⟩
      have hB1 : Below wr.heap.size wr W1 := by rw [hW1]; exact below_alloc _ _
      have r0 : W1.cell? ⟨wr.heap.size, 0, none⟩ = some (.int .i64 3) := by rw [hW1]; simp [go_sem]
      have r1 : W1.cell? ⟨wr.heap.size, 1, none⟩ = some (.func (.func 110) #[] #[.pointer (some ⟨b0, 0, none⟩)]) := by rw [hW1]; simp [go_sem]
      rw [← hW1]
      clear hW1
      have hBw := below_then hB hB1
      have o0 : ∀ p : Over W1, p.w.cell? ⟨wr.heap.size, 0, none⟩ = some (.int .i64 3) := fun p => p.cell r0
      have o1 : ∀ p : Over W1, p.w.cell? ⟨wr.heap.size, 1, none⟩ = some (.func (.func 110) #[] #[.pointer (some ⟨b0, 0, none⟩)]) := fun p => p.cell r1
      have k0 : ∀ p : Over W1, p.w.cell? ⟨w.heap.size + 1, 0, none⟩ = some (.int .i64 (x : Int)) := fun p => p.cell (cell_grown hBw d0)
      have k1 : ∀ p : Over W1, p.w.cell? ⟨w.heap.size + 1, 1, none⟩ = some (.int .i64 (y : Int)) := fun p => p.cell (cell_grown hBw d1)
      have k2 : ∀ p : Over W1, p.w.cell? ⟨w.heap.size + 1, 2, none⟩ = some (.slice a1 n1 c1) := fun p => p.cell (cell_grown hBw d2)
      have k3 : ∀ p : Over W1, p.w.cell? ⟨w.heap.size + 1, 3, none⟩ = some (.int .u8 sx) := fun p => p.cell (cell_grown hBw d3)
      have k4 : ∀ p : Over W1, p.w.cell? ⟨w.heap.size + 1, 4, none⟩ = some (.int .i64 i) := fun p => p.cell (cell_grown hBw d4)
      have k5 : ∀ p : Over W1, p.w.cell? ⟨w.heap.size + 1, 5, none⟩ = some (.slice a2 n2 c2) := fun p => p.cell (cell_grown hBw d5)
      have k6 : ∀ p : Over W1, p.w.cell? ⟨w.heap.size + 1, 6, none⟩ = some (.int .u8 sy) := fun p => p.cell (cell_grown hBw d6)
      have k7 : ∀ p : Over W1, p.w.cell? ⟨w.heap.size + 1, 7, none⟩ = some (.int .i64 k) := fun p => p.cell (cell_grown hBw d7)
      have hc : ∀ p : Over W1, _ := fun p => hs0 p.w (below_then (below_then hB0 hBw) p.h)
      refine wp_region_over W1 (Below.refl _ _) (by kernel_rfl) (by kernel_rfl) ?_
      repeat (go_big_quiet_step (first | (go_at_call 110; exact Calls.over_of (hc _))))
      refine wpQuiet_nil ?_
      intro wz hw'
      have hbz := over_below hw'
      clear hw' o0 o1 k0 k1 k2 k3 k4 k5 k6 k7 hc
      go_wp2_with fail
      go_roundw
      case rel => exact ⟨2, by omega, by go_num, by rw [HS.out]; simp, below_then hBw hbz⟩
      case measure => simp [intOf]
    · have v0 := (hC.grown hB3).c4
      have v1 := (hC.grown hB3).c5
      have gv := lt_of_cell v0
      rw [HP2.out]
      obtain ⟨z, hz⟩ : ∃ z, z = sidesM 2 x y := ⟨_, rfl⟩
      rw [← hz] at hs2
      have hzl : z ≤ 2 := by omega
      obtain ⟨p, hp⟩ : ∃ p, p = 2 * apartM T U + 3 * sidesM 0 x y := ⟨_, rfl⟩
      have hpl : p ≤ 3000 := by omega
      have HS : Hid (paidM x y T U 3 = p + 1 * z) := hid (by rw [HP3.out, hp, hz]; rw [HP.out]; all_goals omega)
      rw [← hp]
      clear hz hp
      go_wp2_with fail
      obtain ⟨W1, hW1⟩ : ∃ W, W = wr.alloc (.cells #[.int .i64 1, .func (.func 110) #[] #[.pointer (some ⟨b2, 0, none⟩)]] 181) := ⟨_, rfl⟩
      have hB1 : Below wr.heap.size wr W1 := by rw [hW1]; exact below_alloc _ _
      have r0 : W1.cell? ⟨wr.heap.size, 0, none⟩ = some (.int .i64 1) := by rw [hW1]; simp [go_sem]
      have r1 : W1.cell? ⟨wr.heap.size, 1, none⟩ = some (.func (.func 110) #[] #[.pointer (some ⟨b2, 0, none⟩)]) := by rw [hW1]; simp [go_sem]
      rw [← hW1]
      clear hW1
      have hBw := below_then hB hB1
      have o0 : ∀ p : Over W1, p.w.cell? ⟨wr.heap.size, 0, none⟩ = some (.int .i64 1) := fun p => p.cell r0
      have o1 : ∀ p : Over W1, p.w.cell? ⟨wr.heap.size, 1, none⟩ = some (.func (.func 110) #[] #[.pointer (some ⟨b2, 0, none⟩)]) := fun p => p.cell r1
      have k0 : ∀ p : Over W1, p.w.cell? ⟨w.heap.size + 1, 0, none⟩ = some (.int .i64 (x : Int)) := fun p => p.cell (cell_grown hBw d0)
      have k1 : ∀ p : Over W1, p.w.cell? ⟨w.heap.size + 1, 1, none⟩ = some (.int .i64 (y : Int)) := fun p => p.cell (cell_grown hBw d1)
      have k2 : ∀ p : Over W1, p.w.cell? ⟨w.heap.size + 1, 2, none⟩ = some (.slice a1 n1 c1) := fun p => p.cell (cell_grown hBw d2)
      have k3 : ∀ p : Over W1, p.w.cell? ⟨w.heap.size + 1, 3, none⟩ = some (.int .u8 sx) := fun p => p.cell (cell_grown hBw d3)
      have k4 : ∀ p : Over W1, p.w.cell? ⟨w.heap.size + 1, 4, none⟩ = some (.int .i64 i) := fun p => p.cell (cell_grown hBw d4)
      have k5 : ∀ p : Over W1, p.w.cell? ⟨w.heap.size + 1, 5, none⟩ = some (.slice a2 n2 c2) := fun p => p.cell (cell_grown hBw d5)
      have k6 : ∀ p : Over W1, p.w.cell? ⟨w.heap.size + 1, 6, none⟩ = some (.int .u8 sy) := fun p => p.cell (cell_grown hBw d6)
      have k7 : ∀ p : Over W1, p.w.cell? ⟨w.heap.size + 1, 7, none⟩ = some (.int .i64 k) := fun p => p.cell (cell_grown hBw d7)
      have hc : ∀ p : Over W1, _ := fun p => hs2 p.w (below_then (below_then hB0 hBw) p.h)
      refine wp_region_over W1 (Below.refl _ _) (by kernel_rfl) (by kernel_rfl) ?_
      repeat (go_big_quiet_step (first | (go_at_call 110; exact Calls.over_of (hc _))))
      refine wpQuiet_nil ?_
      intro wz hw'
      have hbz := over_below hw'
      clear hw' o0 o1 k0 k1 k2 k3 k4 k5 k6 k7 hc
      go_wp2_with fail
      go_roundw
      case rel => exact ⟨3, by omega, by go_num, by rw [HS.out]; simp, below_then hBw hbz⟩
      case measure => simp [intOf]
    · rw [HP3.out]
      go_wp2_with fail
      go_ret
      exact ⟨rfl, hB3⟩

end Go.Proofs.Ytohahlnhbppnhaa

namespace Go.Proofs.Ytohahlnhbppnhaa
open Go.RowKit
set_option linter.unusedSimpArgs false
set_option linter.unusedVariables false

/-- The least number; where there is none, 0. -/
def minL : List Int → Int
  | [] => 0
  | x :: L => L.foldl min x

theorem min_if (y z : Int) : (if y < z then y else z) = min z y := by
  rw [Int.min_def]
  split <;> split <;> omega

set_option maxRecDepth 100000 in
set_option maxHeartbeats 1000000 in
theorem min_any (x : Int) (L : List Int) (n cap : Nat) (a : Option Addr) (w : World) (hL : (x :: L).length = n) (hn : n ≤ 1000) (hS : IntsAt w a (x :: L)) :
    Calls Try.prog 132 #[.slice a n cap] w fun e w' => e = .returned (.int .i64 (minL (x :: L))) ∧ Below w.heap.size w w' := by
  have h1 : 1 ≤ n := by rw [← hL]; simp
  have h1' : (1 : Int) ≤ (n : Int) := by omega
  have h0 : 0 < n := by omega
  have HL := hid hL
  obtain ⟨b, off, ea, e0⟩ := hS 0 (by rw [hL]; omega)
  subst ea
  have gb := lt_of_cell e0
  simp only [List.getD_cons_zero, Nat.add_zero] at e0
  clear hL
  go_enter Try.func132, Try.ntmps132
  go_wp2_with fail
  go_loopw [3, 4] (fun c j wr => ∃ m : Nat, 1 ≤ m ∧ m ≤ n ∧ j = .int .i64 m ∧ c = .int .i64 ((L.take (m - 1)).foldl min x) ∧ Below w.heap.size w wr) (fun _ j _ => n - (intOf j).toNat)
  case atStart => exact ⟨1, by omega, by omega, rfl, rfl, Below.refl _ _⟩
  case round =>
    obtain ⟨m, hm1, hm, rfl, rfl, hB⟩ := hrel
    by_cases hlt : m < n
    · have hlt' : (m : Int) < n := by omega
      obtain ⟨b', off', ea, e1⟩ := hS m (by rw [HL.out]; exact hlt)
      cases ea
      have HT : Hid ((L.take m).foldl min x = min ((L.take (m - 1)).foldl min x) ((x :: L).getD m 0)) := hid (by
        obtain ⟨q, rfl⟩ : ∃ q, m = q + 1 := ⟨m - 1, by omega⟩
        have hq : q < L.length := by have := HL.out; simp at this; omega
        have e : L.take (q + 1) = L.take q ++ [L[q]] := by rw [List.take_add_one, List.getElem?_eq_getElem hq]; rfl
        rw [show q + 1 - 1 = q from rfl, e, List.foldl_append]
        simp [List.getElem?_eq_getElem hq])
      generalize (x :: L).getD m 0 = y at e1 HT
      generalize (L.take (m - 1)).foldl min x = z at HT
      replace e1 := cell_grown hB e1
      have gb2 := lt_of_cell e1
      go_wp2_with fail
      go_roundw
      case rel => exact ⟨m + 1, by omega, by omega, by go_num, by rw [show m + 1 - 1 = m by omega, HT.out, ← min_if], hB⟩
      case measure => simp [intOf]; omega
    · have hmn : m = n := by omega
      subst hmn
      have hfin : L.take (m - 1) = L := List.take_of_length_le (by have := HL.out; simp at this; omega)
      rw [hfin]
      clear hfin
      go_wp2_with fail
      go_ret
      exact ⟨rfl, hB⟩

set_option maxHeartbeats 1000000 in
theorem least_any (L : List Int) (n cap : Nat) (a : Option Addr) (w : World) (hL : L.length = n) (hn : n ≤ 1000) (hS : IntsAt w a L) :
    Calls Try.prog 111 #[.slice a n cap] w fun e w' => e = .returned (.int .i64 (minL L)) ∧ Below w.heap.size w w' := by
  cases L with
  | nil =>
    simp only [List.length_nil] at hL
    subst hL
    go_enter Try.func111, Try.ntmps111
    go_wp2_with fail
    go_ret
    exact ⟨rfl, Below.refl _ _⟩
  | cons x L =>
    have h0 : ((n : Int) == 0) = false := by rw [← hL]; simp; omega
    have h1 := min_any x L n cap a w hL hn hS
    clear hL
    go_enter Try.func111, Try.ntmps111
    go_wp2_with (go_at_call 132; refine h1.mono ?_; rintro e w' ⟨rfl, hb⟩)
    go_ret
    exact ⟨rfl, hb⟩

end Go.Proofs.Ytohahlnhbppnhaa
