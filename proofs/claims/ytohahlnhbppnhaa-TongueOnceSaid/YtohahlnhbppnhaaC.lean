/- Tongue: a step that is taken: how many marks its sides have not in common, where it ends, what it costs. -/
import Derived.Test.YtohahlnhbppnhaaB
import Derived.Sort.AtCall
import Derived.Deep.RegionHeld3
namespace Go.Proofs.Ytohahlnhbppnhaa
open Go.RowKit
set_option linter.unusedSimpArgs false
set_option linter.unusedVariables false

/-- In how many marks two texts differ. -/
def apartM (T U : List Sen) : Nat := apartK (wordsOf T) (wordsOf U) 16

/-- A text whose marks are marks, and that is not too long. -/
def FineT (T : List Sen) : Prop := T.length ≤ 1000 ∧ (∀ s ∈ T, s.marks.length ≤ 1000) ∧ MarksOk T

theorem FineT.part {T : List Sen} (h : FineT T) (l k : Nat) : FineT ((T.drop l).take k) :=
  ⟨by have := h.1; simp; omega, fun s hs => h.2.1 s (List.mem_of_mem_drop (List.mem_of_mem_take hs)), fun s hs => h.2.2 s (List.mem_of_mem_drop (List.mem_of_mem_take hs))⟩

set_option maxRecDepth 100000 in
set_option maxHeartbeats 1000000 in
theorem apart_any (T U : List Sen) (x y i k : Int) (sx sy : Int) (n1 c1 n2 c2 : Nat) (a1 a2 : Option Addr) (w : World) (hT : T.length = n1) (hU : U.length = n2) (fT : FineT T) (fU : FineT U) (hS : TextAt w a1 T) (hR : TextAt w a2 U) :
    Calls Try.prog 85 #[.agg #[.int .i64 x, .int .i64 y, .slice a1 n1 c1, .int .u8 sx, .int .i64 i, .slice a2 n2 c2, .int .u8 sy, .int .i64 k]] w fun e w' => e = .returned (.int .i64 (apartM T U : Nat)) ∧ Below w.heap.size w w' := by
  have h1 : ∀ W, Below w.heap.size w W → Calls Try.prog 115 #[.slice a1 n1 c1] W fun e w' => e = .returned (.agg (wordsA (wordsOf T))) ∧ Below W.heap.size W w' := fun W hb => marks_any T n1 c1 a1 W hT (by have := fT.1; omega) fT.2.1 fT.2.2 (hS.grown hb)
  have h2 : ∀ W, Below w.heap.size w W → Calls Try.prog 115 #[.slice a2 n2 c2] W fun e w' => e = .returned (.agg (wordsA (wordsOf U))) ∧ Below W.heap.size W w' := fun W hb => marks_any U n2 c2 a2 W hU (by have := fU.1; omega) fU.2.1 fU.2.2 (hR.grown hb)
  have h3 : ∀ W, Calls Try.prog 116 #[.agg (wordsA (wordsOf T)), .agg (wordsA (wordsOf U))] W fun e w' => e = .returned (.int .i64 (apartM T U : Nat)) ∧ Below W.heap.size W w' := fun W => wapart_any _ _ W (wordsOf_ok T) (wordsOf_ok U)
  generalize wordsOf T = ws at h1 h3
  generalize wordsOf U = us at h2 h3
  generalize apartM T U = z at h3 ⊢
  clear hT hU fT fU hS hR
  go_enter Try.func85, Try.ntmps85
  go_wp2_with fail
  obtain ⟨W0, hW0⟩ : ∃ W, W = w.alloc (.cells #[.int .i64 x, .int .i64 y, .slice a1 n1 c1, .int .u8 sx, .int .i64 i, .slice a2 n2 c2, .int .u8 sy, .int .i64 k] 155) := ⟨_, rfl⟩
  have hB0 : Below w.heap.size w W0 := by rw [hW0]; exact below_alloc _ _
  have k1 : W0.cell? ⟨w.heap.size, 2, none⟩ = some (.slice a1 n1 c1) := by rw [hW0]; simp [go_sem]
  have k2 : W0.cell? ⟨w.heap.size, 5, none⟩ = some (.slice a2 n2 c2) := by rw [hW0]; simp [go_sem]
  rw [← hW0]
  clear hW0
  have o1 : ∀ p : Over W0, p.w.cell? ⟨w.heap.size, 2, none⟩ = some (.slice a1 n1 c1) := fun p => p.cell k1
  have o2 : ∀ p : Over W0, p.w.cell? ⟨w.heap.size, 5, none⟩ = some (.slice a2 n2 c2) := fun p => p.cell k2
  replace h1 : ∀ p : Over W0, _ := fun p => h1 p.w (below_then hB0 p.h)
  replace h2 : ∀ p : Over W0, _ := fun p => h2 p.w (below_then hB0 p.h)
  refine wp_region_over W0 (Below.refl _ _) (by kernel_rfl) (by kernel_rfl) ?_
  repeat (go_big_quiet_step (first | (go_at_call 116; exact Calls.over_of (h3 _)) | (go_at_call_has 115 a1; exact Calls.over_of (h1 _)) | (go_at_call_has 115 a2; exact Calls.over_of (h2 _))))
  refine wpQuiet_nil ?_
  intro wz hw'
  have hbz := over_below hw'
  clear hw' o1 o2 h1 h2 h3
  go_wp2
  go_ret
  exact ⟨rfl, below_then hB0 hbz⟩

/-- Where a part of a slice begins. -/
def subA (a : Option Addr) (cap l s : Nat) : Option Addr := if cap = l then a else a.map (·.add (l * s))

theorem Try.elem114 : Try.prog.elem 114 = 91 := by kernel_rfl

theorem slice114 (a : Option Addr) (n cap l h : Nat) (h1 : l ≤ h) (h2 : h ≤ cap) (W : World) :
    (Instr.slice 114 (.slice a n cap) (some (.int .i64 (l : Int))) (some (.int .i64 (h : Int))) none).run Try.prog W = .ok (.slice (subA a cap l 2) (h - l) (cap - l)) W := by
  rw [run_slice_lh (t := 114) (a := a) (len := n) (cap := cap) (ht := by rw [Try.elem114]; exact Try.underlying114) (kl := .i64) (kh := .i64) (l := (l : Int)) (h := (h : Int)) (h0 := by omega) (h1 := by omega) (h2 := by omega)]
  have hs : (sizeOf (Try.prog.elem 114)).run Try.prog W = .ok 2 W := by rw [Try.elem114]; exact Try.sizeOf91 W
  rw [hs]
  simp only [Result.andThen, sliced, Int.toNat_natCast]
  rfl

theorem TextAt.part {w : World} {a : Option Addr} {T : List Sen} (h : TextAt w a T) {n cap : Nat} (hn : T.length = n) (hc : n ≤ cap) (l k : Nat) (hlk : l + k ≤ n) : TextAt w (subA a cap l 2) ((T.drop l).take k) := by
  intro i hi
  have hk : i < k := by rw [List.length_take] at hi; omega
  obtain ⟨b, off, ma, mc, ha, h1, h2, h3⟩ := h (l + i) (by omega)
  have hg : ((T.drop l).take k).getD i default = T.getD (l + i) default := by
    simp only [List.getD_eq_getElem?_getD, List.getElem?_take, if_pos hk, List.getElem?_drop]
  rw [hg]
  refine ⟨b, off + l * 2, ma, mc, ?_, ?_, ?_, h3⟩
  · unfold subA
    rw [if_neg (by omega), ha]
    simp [Addr.add]
  · rw [← h1]
    congr 2
    omega
  · rw [← h2]
    congr 2
    omega

set_option maxRecDepth 100000 in
set_option maxHeartbeats 1000000 in
theorem part_any (n cap l k : Nat) (s : Int) (f : Nat) (a : Option Addr) (w : World) (hn : n ≤ 1000) (hf : f ≤ 1000) (hc : n ≤ cap) (hlk : l + k ≤ n) :
    Calls Try.prog 113 #[.agg #[.slice a n cap, .int .u8 s, .int .i64 (f : Int)], .int .i64 (l : Int), .int .i64 (k : Int)] w fun e w' => e = .returned (.agg #[.slice (subA a cap l 2) k (cap - l), .int .u8 s, .int .i64 ((f + l : Nat) : Int)]) ∧ Below w.heap.size w w' := by
  have hsl := fun W => slice114 a n cap l (l + k) (by omega) (by omega) W
  rw [show l + k - l = k by omega] at hsl
  rw [show ((l + k : Nat) : Int) = (l : Int) + (k : Int) by omega] at hsl
  go_enter Try.func113, Try.ntmps113
  go_wp2_with fail
  go_region
  go_wp2_with fail
  exact bodyPost_ret (v := .agg #[.slice (subA a cap l 2) k (cap - l), .int .u8 s, .int .i64 ((f : Int) + l)]) (by simp [results, Try.f113, go_sem]) rfl ⟨by simp, (((Below.refl _ w).alloc (Nat.le_refl _) _).alloc (by simp) _).drew⟩

set_option maxRecDepth 100000 in
set_option maxHeartbeats 1000000 in
theorem end_any (n cap f : Nat) (s : Int) (a : Option Addr) (w : World) (hn : n ≤ 1000) (hf : f ≤ 1000) :
    Calls Try.prog 114 #[.agg #[.slice a n cap, .int .u8 s, .int .i64 (f : Int)]] w fun e w' => e = .returned (.int .i64 ((f + n : Nat) : Int)) ∧ Below w.heap.size w w' := by
  go_enter Try.func114, Try.ntmps114
  go_wp2_with fail
  go_ret
  exact ⟨by simp, below_alloc _ _⟩

theorem cell_set2 {X : World} {b b' o o1 o2 : Nat} {v u1 u2 : Value} (h : b ≠ b') (hc : X.cell? ⟨b, o, none⟩ = some v) : ((X.setCell ⟨b', o1, none⟩ u1).setCell ⟨b', o2, none⟩ u2).cell? ⟨b, o, none⟩ = some v := by
  rw [World.cell?_setCell_other _ _ _ _ (by simp [h]), World.cell?_setCell_other _ _ _ _ (by simp [h])]
  exact hc

theorem cell_drew {X : World} {b o : Nat} {v : Value} (hc : X.cell? ⟨b, o, none⟩ = some v) : X.drew.cell? ⟨b, o, none⟩ = some v := hc

theorem cell_setB1 {X : World} {b : Nat} {x u v : Value} (hc : X.cell? ⟨b, 0, none⟩ = some x) : ((X.setCell ⟨b, 0, none⟩ u).setCell ⟨b, 1, none⟩ v).cell? ⟨b, 0, none⟩ = some u := by
  rw [World.cell?_setCell_other _ _ _ _ (by simp)]
  exact World.cell?_setCell_same' _ _ _ (by rw [hc]; rfl)

theorem cell_setB2 {X : World} {b : Nat} {x u v : Value} (hc : X.cell? ⟨b, 1, none⟩ = some x) : ((X.setCell ⟨b, 0, none⟩ u).setCell ⟨b, 1, none⟩ v).cell? ⟨b, 1, none⟩ = some v := by
  refine World.cell?_setCell_same' _ _ _ ?_
  rw [World.cell?_setCell_other _ _ _ _ (by simp), hc]
  rfl

set_option maxRecDepth 100000 in
set_option maxHeartbeats 1000000 in
theorem behind_any (x y : Int) (sx sy : Int) (n1 c1 i n2 c2 k : Nat) (a1 a2 : Option Addr) (w : World) (h1 : n1 ≤ 1000) (h2 : n2 ≤ 1000) (hi : i ≤ 1000) (hk : k ≤ 1000) :
    Calls Try.prog 82 #[.agg #[.int .i64 x, .int .i64 y, .slice a1 n1 c1, .int .u8 sx, .int .i64 (i : Int), .slice a2 n2 c2, .int .u8 sy, .int .i64 (k : Int)]] w fun e w' => e = .returned (.agg #[.int .i64 ((i + n1 : Nat) : Int), .int .i64 ((k + n2 : Nat) : Int)]) ∧ Below w.heap.size w w' := by
  have e1 := fun W => end_any n1 c1 i sx a1 W h1 hi
  have e2 := fun W => end_any n2 c2 k sy a2 W h2 hk
  generalize i + n1 = u at e1 ⊢
  generalize k + n2 = v at e2 ⊢
  obtain ⟨W0, hW0⟩ : ∃ W, W = (w.alloc (.cells #[.int .i64 x, .int .i64 y, .slice a1 n1 c1, .int .u8 sx, .int .i64 (i : Int), .slice a2 n2 c2, .int .u8 sy, .int .i64 (k : Int)] 155)).alloc (.cells #[.int .i64 0, .int .i64 0] 150) := ⟨_, rfl⟩
  have HB : Hid (Below w.heap.size w W0) := hid (by rw [hW0]; exact ((Below.refl _ w).alloc (Nat.le_refl _) _).alloc (by simp) _)
  have x2 : W0.cell? ⟨w.heap.size, 2, none⟩ = some (.slice a1 n1 c1) := by rw [hW0]; simp [go_sem]
  have x3 : W0.cell? ⟨w.heap.size, 3, none⟩ = some (.int .u8 sx) := by rw [hW0]; simp [go_sem]
  have x4 : W0.cell? ⟨w.heap.size, 4, none⟩ = some (.int .i64 (i : Int)) := by rw [hW0]; simp [go_sem]
  have x5 : W0.cell? ⟨w.heap.size, 5, none⟩ = some (.slice a2 n2 c2) := by rw [hW0]; simp [go_sem]
  have x6 : W0.cell? ⟨w.heap.size, 6, none⟩ = some (.int .u8 sy) := by rw [hW0]; simp [go_sem]
  have x7 : W0.cell? ⟨w.heap.size, 7, none⟩ = some (.int .i64 (k : Int)) := by rw [hW0]; simp [go_sem]
  have hr : W0.rowIs (w.heap.size + 1) 150 2 (fun _ => .int .i64 0) := by
    rw [hW0]
    have := World.rowIs_alloc (w.alloc (.cells #[.int .i64 x, .int .i64 y, .slice a1 n1 c1, .int .u8 sx, .int .i64 (i : Int), .slice a2 n2 c2, .int .u8 sy, .int .i64 (k : Int)] 155)) #[.int .i64 0, .int .i64 0] 150 (fun _ => .int .i64 0) (fun i hi => by
      have h : i < 2 := hi
      iterate 2 (rcases i with _ | i; · rfl)
      omega)
    rwa [World.size_alloc] at this
  go_enter Try.func82, Try.ntmps82
  go_wp2_with fail
  rw [← hW0]
  clear hW0
  have hnn : w.heap.size ≠ w.heap.size + 1 := by omega
  have hBd : Below W0.heap.size W0 W0.drew := (Below.refl _ _).drew
  go_region_held3 (fun w' : World => w'.cell? ⟨w.heap.size, 2, none⟩ = some (.slice a1 n1 c1) ∧ w'.cell? ⟨w.heap.size, 3, none⟩ = some (.int .u8 sx) ∧ w'.cell? ⟨w.heap.size, 4, none⟩ = some (.int .i64 (i : Int)) ∧ w'.cell? ⟨w.heap.size, 5, none⟩ = some (.slice a2 n2 c2) ∧ w'.cell? ⟨w.heap.size, 6, none⟩ = some (.int .u8 sy) ∧ w'.cell? ⟨w.heap.size, 7, none⟩ = some (.int .i64 (k : Int))) (first | with_reducible exact ⟨x2, x3, x4, x5, x6, x7⟩ | with_reducible exact ⟨cell_drew x2, cell_drew x3, cell_drew x4, cell_drew x5, cell_drew x6, cell_drew x7⟩ | with_reducible exact ⟨cell_set2 hnn x2, cell_set2 hnn x3, cell_set2 hnn x4, cell_set2 hnn x5, cell_set2 hnn x6, cell_set2 hnn x7⟩) (first | (go_at_call_has 114 a1; replace x2 := cell_grown hBd x2; replace x3 := cell_grown hBd x3; replace x4 := cell_grown hBd x4; replace x5 := cell_grown hBd x5; replace x6 := cell_grown hBd x6; replace x7 := cell_grown hBd x7; replace hr := hr.of_block (hBd.block _ hr.lt); replace HB := hid (below_then HB.out hBd); refine (e1 _).mono ?_; rintro e wl1 ⟨rfl, hb1⟩; replace x2 := cell_grown hb1 x2; replace x3 := cell_grown hb1 x3; replace x4 := cell_grown hb1 x4; replace x5 := cell_grown hb1 x5; replace x6 := cell_grown hb1 x6; replace x7 := cell_grown hb1 x7; replace hr := hr.of_block (hb1.block _ hr.lt); replace HB := hid (below_then HB.out hb1)) | (go_at_call_has 114 a2; refine (e2 _).mono ?_; rintro e wl2 ⟨rfl, hb2⟩; replace x2 := cell_grown hb2 x2; replace x3 := cell_grown hb2 x3; replace x4 := cell_grown hb2 x4; replace x5 := cell_grown hb2 x5; replace x6 := cell_grown hb2 x6; replace x7 := cell_grown hb2 x7; replace hr := hr.of_block (hb2.block _ hr.lt); replace HB := hid (below_then HB.out hb2); have q0 := hr.cell (i := 0) (by decide); have q1 := hr.cell (i := 1) (by decide); have f0 := hr.frozen 0; have f1 := hr.frozen 1; have gl := hr.lt))
  have p0 := cell_setB1 (X := wl2) (b := w.heap.size + 1) (u := .int .i64 (u : Int)) (v := .int .i64 (v : Int)) q0
  have p1 := cell_setB2 (X := wl2) (b := w.heap.size + 1) (u := .int .i64 (u : Int)) (v := .int .i64 (v : Int)) q1
  have HB3 := hid ((HB.out.setCell (p := ⟨w.heap.size + 1, 0, none⟩) (by simp) (.int .i64 (u : Int))).setCell (p := ⟨w.heap.size + 1, 1, none⟩) (by simp) (.int .i64 (v : Int)))
  generalize (wl2.setCell ⟨w.heap.size + 1, 0, none⟩ (.int .i64 (u : Int))).setCell ⟨w.heap.size + 1, 1, none⟩ (.int .i64 (v : Int)) = WF at p0 p1 HB3 ⊢
  go_wp2_with fail
  exact bodyPost_ret (v := .agg #[.int .i64 (u : Int), .int .i64 (v : Int)]) (by simp [results, Try.f82, go_sem, p0, p1]) rfl ⟨rfl, HB3.out⟩

set_option maxRecDepth 100000 in
set_option maxHeartbeats 1000000 in
theorem pend_any (sx sy : Int) (n1 c1 i n2 c2 k : Nat) (a1 a2 : Option Addr) (ca : Option Addr) (cn cc : Nat) (w : World) (h1 : n1 ≤ 1000) (h2 : n2 ≤ 1000) (hi : i ≤ 1000) (hk : k ≤ 1000) :
    Calls Try.prog 84 #[.agg #[.slice a1 n1 c1, .int .u8 sx, .int .i64 (i : Int), .slice a2 n2 c2, .int .u8 sy, .int .i64 (k : Int), .slice ca cn cc]] w fun e w' => e = .returned (.agg #[.int .i64 ((i + n1 : Nat) : Int), .int .i64 ((k + n2 : Nat) : Int)]) ∧ Below w.heap.size w w' := by
  have e1 := fun W => end_any n1 c1 i sx a1 W h1 hi
  have e2 := fun W => end_any n2 c2 k sy a2 W h2 hk
  generalize i + n1 = u at e1 ⊢
  generalize k + n2 = v at e2 ⊢
  obtain ⟨W0, hW0⟩ : ∃ W, W = (w.alloc (.cells #[.slice a1 n1 c1, .int .u8 sx, .int .i64 (i : Int), .slice a2 n2 c2, .int .u8 sy, .int .i64 (k : Int), .slice ca cn cc] 119)).alloc (.cells #[.int .i64 0, .int .i64 0] 150) := ⟨_, rfl⟩
  have HB : Hid (Below w.heap.size w W0) := hid (by rw [hW0]; exact ((Below.refl _ w).alloc (Nat.le_refl _) _).alloc (by simp) _)
  have x0 : W0.cell? ⟨w.heap.size, 0, none⟩ = some (.slice a1 n1 c1) := by rw [hW0]; simp [go_sem]
  have x1 : W0.cell? ⟨w.heap.size, 1, none⟩ = some (.int .u8 sx) := by rw [hW0]; simp [go_sem]
  have x2 : W0.cell? ⟨w.heap.size, 2, none⟩ = some (.int .i64 (i : Int)) := by rw [hW0]; simp [go_sem]
  have x3 : W0.cell? ⟨w.heap.size, 3, none⟩ = some (.slice a2 n2 c2) := by rw [hW0]; simp [go_sem]
  have x4 : W0.cell? ⟨w.heap.size, 4, none⟩ = some (.int .u8 sy) := by rw [hW0]; simp [go_sem]
  have x5 : W0.cell? ⟨w.heap.size, 5, none⟩ = some (.int .i64 (k : Int)) := by rw [hW0]; simp [go_sem]
  have hr : W0.rowIs (w.heap.size + 1) 150 2 (fun _ => .int .i64 0) := by
    rw [hW0]
    have := World.rowIs_alloc (w.alloc (.cells #[.slice a1 n1 c1, .int .u8 sx, .int .i64 (i : Int), .slice a2 n2 c2, .int .u8 sy, .int .i64 (k : Int), .slice ca cn cc] 119)) #[.int .i64 0, .int .i64 0] 150 (fun _ => .int .i64 0) (fun i hi => by
      have h : i < 2 := hi
      iterate 2 (rcases i with _ | i; · rfl)
      omega)
    rwa [World.size_alloc] at this
  go_enter Try.func84, Try.ntmps84
  go_wp2_with fail
  rw [← hW0]
  clear hW0
  have hnn : w.heap.size ≠ w.heap.size + 1 := by omega
  have hBd : Below W0.heap.size W0 W0.drew := (Below.refl _ _).drew
  go_region_held3 (fun w' : World => w'.cell? ⟨w.heap.size, 0, none⟩ = some (.slice a1 n1 c1) ∧ w'.cell? ⟨w.heap.size, 1, none⟩ = some (.int .u8 sx) ∧ w'.cell? ⟨w.heap.size, 2, none⟩ = some (.int .i64 (i : Int)) ∧ w'.cell? ⟨w.heap.size, 3, none⟩ = some (.slice a2 n2 c2) ∧ w'.cell? ⟨w.heap.size, 4, none⟩ = some (.int .u8 sy) ∧ w'.cell? ⟨w.heap.size, 5, none⟩ = some (.int .i64 (k : Int))) (first | with_reducible exact ⟨x0, x1, x2, x3, x4, x5⟩ | with_reducible exact ⟨cell_drew x0, cell_drew x1, cell_drew x2, cell_drew x3, cell_drew x4, cell_drew x5⟩ | with_reducible exact ⟨cell_set2 hnn x0, cell_set2 hnn x1, cell_set2 hnn x2, cell_set2 hnn x3, cell_set2 hnn x4, cell_set2 hnn x5⟩) (first | (go_at_call_has 114 a1; replace x0 := cell_grown hBd x0; replace x1 := cell_grown hBd x1; replace x2 := cell_grown hBd x2; replace x3 := cell_grown hBd x3; replace x4 := cell_grown hBd x4; replace x5 := cell_grown hBd x5; replace hr := hr.of_block (hBd.block _ hr.lt); replace HB := hid (below_then HB.out hBd); refine (e1 _).mono ?_; rintro e wl1 ⟨rfl, hb1⟩; replace x0 := cell_grown hb1 x0; replace x1 := cell_grown hb1 x1; replace x2 := cell_grown hb1 x2; replace x3 := cell_grown hb1 x3; replace x4 := cell_grown hb1 x4; replace x5 := cell_grown hb1 x5; replace hr := hr.of_block (hb1.block _ hr.lt); replace HB := hid (below_then HB.out hb1)) | (go_at_call_has 114 a2; refine (e2 _).mono ?_; rintro e wl2 ⟨rfl, hb2⟩; replace x0 := cell_grown hb2 x0; replace x1 := cell_grown hb2 x1; replace x2 := cell_grown hb2 x2; replace x3 := cell_grown hb2 x3; replace x4 := cell_grown hb2 x4; replace x5 := cell_grown hb2 x5; replace hr := hr.of_block (hb2.block _ hr.lt); replace HB := hid (below_then HB.out hb2); have q0 := hr.cell (i := 0) (by decide); have q1 := hr.cell (i := 1) (by decide); have f0 := hr.frozen 0; have f1 := hr.frozen 1; have gl := hr.lt))
  have p0 := cell_setB1 (X := wl2) (b := w.heap.size + 1) (u := .int .i64 (u : Int)) (v := .int .i64 (v : Int)) q0
  have p1 := cell_setB2 (X := wl2) (b := w.heap.size + 1) (u := .int .i64 (u : Int)) (v := .int .i64 (v : Int)) q1
  have HB3 := hid ((HB.out.setCell (p := ⟨w.heap.size + 1, 0, none⟩) (by simp) (.int .i64 (u : Int))).setCell (p := ⟨w.heap.size + 1, 1, none⟩) (by simp) (.int .i64 (v : Int)))
  generalize (wl2.setCell ⟨w.heap.size + 1, 0, none⟩ (.int .i64 (u : Int))).setCell ⟨w.heap.size + 1, 1, none⟩ (.int .i64 (v : Int)) = WF at p0 p1 HB3 ⊢
  go_wp2_with fail
  exact bodyPost_ret (v := .agg #[.int .i64 (u : Int), .int .i64 (v : Int)]) (by simp [results, Try.f84, go_sem, p0, p1]) rfl ⟨rfl, HB3.out⟩

end Go.Proofs.Ytohahlnhbppnhaa
