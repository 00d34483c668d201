/- Mend, the laws: a lexicon in new memory: Lexicon. -/
import Derived.Test.YtbampfkmgjfofaaGreatDoorBO
namespace Go.Proofs.YtbampfkmgjfofaaGreatDoor
open Go.RowKit

def row3 (v0 v1 v2 : Value) : Nat → Value
  | 0 => v0
  | 1 => v1
  | _ => v2

theorem Tryz.info119 : (Tryz.prog.info? 119).map (fun i => (i.zero, i.size, i.bytes)) = some (some (.agg #[.string .empty, .int .i64 0]), 2, 24) := by kernel_rfl
theorem Tryz.info24 : (Tryz.prog.info? 24).map (fun i => (i.zero, i.size, i.bytes)) = some (some (.slice none 0 0), 1, 24) := by kernel_rfl

theorem row3_set0 {W : World} {b : Nat} {t : TypeId} {v0 v1 v2 : Value} (h : W.rowIs b t 3 (row3 v0 v1 v2)) (v : Value) : (W.setCell ⟨b, 0, none⟩ v).rowIs b t 3 (row3 v v1 v2) :=
  (h.set 0 v).congr fun i hi => by rcases (by omega : i = 0 ∨ i = 1 ∨ i = 2) with rfl | rfl | rfl <;> rfl
theorem row3_set1 {W : World} {b : Nat} {t : TypeId} {v0 v1 v2 : Value} (h : W.rowIs b t 3 (row3 v0 v1 v2)) (v : Value) : (W.setCell ⟨b, 1, none⟩ v).rowIs b t 3 (row3 v0 v v2) :=
  (h.set 1 v).congr fun i hi => by rcases (by omega : i = 0 ∨ i = 1 ∨ i = 2) with rfl | rfl | rfl <;> rfl

theorem take_next {α : Type} {L : List α} {k : Nat} (d : α) (hk : k < L.length) : L.take (k + 1) = L.take k ++ [L.getD k d] := by
  rw [List.take_add_one, List.getElem?_eq_getElem hk, List.getD_eq_getElem?_getD, List.getElem?_eq_getElem hk]
  rfl

theorem nums_of_ownsN {W : World} {base : Nat} {e : TypeId} {a : Option Addr} {n cap : Nat} {L : List (Tx × Int)} (h : W.ownsRow base e 2 (.slice a n cap) n (flatV numC L)) (hL : L.length = n) : Nums W a L := by
  subst hL
  exact nums_of_owns h

/-- All but one elder block is as it was. -/
structure But1 (ob : Nat) (Wp W : World) : Prop where
  os : W.os = Wp.os
  tape : W.tape = Wp.tape
  output : W.output = Wp.output
  size : Wp.heap.size ≤ W.heap.size
  keep : ∀ k, k < Wp.heap.size → k ≠ ob → W.heap[k]? = Wp.heap[k]?

theorem But1.refl (ob : Nat) (W : World) : But1 ob W W := ⟨rfl, rfl, rfl, Nat.le_refl _, fun _ _ _ => rfl⟩
theorem But1.over {ob : Nat} {Wp W W' : World} (h : But1 ob Wp W) (k : Below Wp.heap.size W W') : But1 ob Wp W' :=
  ⟨k.os.trans h.os, k.tape.trans h.tape, k.output.trans h.output, Nat.le_trans h.size k.size, fun j hj hne => (k.block j hj).trans (h.keep j hj hne)⟩
theorem But1.set {ob : Nat} {Wp W : World} (h : But1 ob Wp W) (o : Nat) (v : Value) : But1 ob Wp (W.setCell ⟨ob, o, none⟩ v) :=
  ⟨h.os, h.tape, h.output, by have := h.size; simpa using this, fun j hj hne => (RowKit.Below.heap_setCell _ _ _ _ hne).trans (h.keep j hj hne)⟩
theorem But1.below {ob B : Nat} {w Wp W : World} (h : But1 ob Wp W) (hb : Below B w Wp) (h1 : B ≤ ob) (h2 : B ≤ Wp.heap.size) : Below B w W :=
  ⟨h.os.trans hb.os, h.tape.trans hb.tape, h.output.trans hb.output, Nat.le_trans hb.size h.size, fun k hk => (h.keep k (by omega) (by omega)).trans (hb.block k hk)⟩
theorem But1.cell {ob : Nat} {Wp W : World} (h : But1 ob Wp W) {b o : Nat} {v : Value} (hne : b ≠ ob) (hc : Wp.cell? ⟨b, o, none⟩ = some v) : W.cell? ⟨b, o, none⟩ = some v :=
  (World.cell?_of_block (w := Wp) (h.keep b (lt_of_cell hc) hne)).trans hc

/-- The copies of names so far: where each lies, apart from the row that holds them. -/
def NamesOk (W : World) (B : Nat) (v : Value) (xs : List Value) (L : List (List Tx)) : Prop :=
  xs.length = L.length ∧ ∀ i, i < L.length → ∃ ai ci, xs[i]? = some (.slice ai (L.getD i []).length ci) ∧ Strs W ai (L.getD i []) ∧ ∀ bb o m, ai = some ⟨bb, o, m⟩ → B ≤ bb ∧ bb < W.heap.size ∧ v.ownBlock ≠ some bb

theorem NamesOk.moved {W W' : World} {B : Nat} {v v' : Value} {xs : List Value} {L : List (List Tx)} (h : NamesOk W B v xs L)
    (hk : ∀ bb, B ≤ bb → bb < W.heap.size → v.ownBlock ≠ some bb → W'.heap[bb]? = W.heap[bb]? ∧ bb < W'.heap.size ∧ v'.ownBlock ≠ some bb) : NamesOk W' B v' xs L := by
  refine ⟨h.1, fun i hi => ?_⟩
  obtain ⟨ai, ci, h1, h2, h3⟩ := h.2 i hi
  refine ⟨ai, ci, h1, fun j hj => ?_, fun bb o m e => ?_⟩
  · obtain ⟨b, off, ha, hc⟩ := h2 j hj
    obtain ⟨g1, g2, g3⟩ := h3 b off none ha
    exact ⟨b, off, ha, (World.cell?_of_block (w := W) (hk b g1 g2 g3).1).trans hc⟩
  · obtain ⟨g1, g2, g3⟩ := h3 bb o m e
    exact ⟨g1, (hk bb g1 g2 g3).2⟩

theorem NamesOk.snoc {W : World} {B : Nat} {v : Value} {xs : List Value} {L : List (List Tx)} (h : NamesOk W B v xs L) {N : List Tx} {ai : Option Addr} {ci : Nat} (hN : Strs W ai N)
    (ha : ∀ bb o m, ai = some ⟨bb, o, m⟩ → B ≤ bb ∧ bb < W.heap.size ∧ v.ownBlock ≠ some bb) : NamesOk W B v (xs ++ [.slice ai N.length ci]) (L ++ [N]) := by
  refine ⟨by rw [List.length_append, List.length_append, h.1]; rfl, fun i hi => ?_⟩
  rw [List.length_append, List.length_singleton] at hi
  by_cases e : i < L.length
  · obtain ⟨aj, cj, h1, h2, h3⟩ := h.2 i e
    have hg : (L ++ [N]).getD i [] = L.getD i [] := by simp [List.getD_eq_getElem?_getD, List.getElem?_append_left e]
    rw [hg]
    exact ⟨aj, cj, by rw [List.getElem?_append_left (by rw [h.1]; exact e)]; exact h1, h2, h3⟩
  · have e' : i = L.length := by omega
    subst e'
    have hg : (L ++ [N]).getD L.length [] = N := by simp [List.getD_eq_getElem?_getD]
    rw [hg]
    exact ⟨ai, ci, by rw [← h.1]; simp, hN, ha⟩

theorem lists_of_names {W : World} {B base n cap : Nat} {a : Option Addr} {xs : List Value} {L : List (List Tx)} (h : NamesOk W B (.slice a n cap) xs L) (hown : W.ownsRow base 24 1 (.slice a n cap) n xs) (hL : L.length = n) (hN : ∀ N ∈ L, N.length ≤ 1000) : Lists W a L := by
  intro i hi
  obtain ⟨ai, ci, h1, h2, -⟩ := h.2 i hi
  obtain ⟨b, -, ha, hc⟩ := owns_cells hown (by omega)
  refine ⟨b, 0, ai, ci, ha, by rw [Nat.zero_add]; exact hc i _ h1, ?_, h2⟩
  have := hN (L.getD i []) (by rw [List.getD_eq_getElem?_getD, List.getElem?_eq_getElem hi, Option.getD_some]; exact List.getElem_mem _)
  unfold maxLen
  omega

/-- What Lexicon returns, with its memory. -/
def LexPost (l : Lex) (n1 n2 n3 : Nat) (w : World) (e : Ending) (w' : World) : Prop :=
  ∃ b1 b2 b3 d1 d2 d3, e = .returned (.agg #[.slice b1 n1 d1, .slice b2 n2 d2, .slice b3 n3 d3]) ∧ LexAt w' b1 b2 b3 l ∧ Below w.heap.size w w'

set_option maxRecDepth 100000 in
set_option maxHeartbeats 4000000 in
theorem lexicon_any (l : Lex) (a1 a2 a3 : Option Addr) (n1 n2 n3 c1 c2 c3 : Nat) (w : World) (h1 : l.nums.length = n1) (h2 : l.names.length = n2) (h3 : l.nots.length = n3) (hn1 : n1 ≤ 1000) (hn2 : n2 ≤ 1000) (hn3 : n3 ≤ 1000) (hN : ∀ N ∈ l.names, N.length ≤ 1000)
    (hL : LexAt w a1 a2 a3 l) : Calls Tryz.prog 19 #[.agg #[.slice a1 n1 c1, .slice a2 n2 c2, .slice a3 n3 c3]] w (LexPost l n1 n2 n3 w) := by
  have hnbw : ∀ i off', a2 = some ⟨i, off', none⟩ → n2 ≠ 0 → i < w.heap.size := fun i off' e hne => by
    obtain ⟨b, off, _, _, ha, hc, -, -⟩ := hL.names 0 (by omega)
    rw [e] at ha
    simp only [Option.some.injEq, Addr.mk.injEq] at ha
    rw [ha.1]
    exact lt_of_cell hc
  obtain ⟨W0, hW0⟩ : ∃ W, W = (w.alloc (.cells #[.slice a1 n1 c1, .slice a2 n2 c2, .slice a3 n3 c3] 26)).alloc (.cells #[.slice none 0 0, .slice none 0 0, .slice none 0 0] 34) := ⟨_, rfl⟩
  have hB0 : Below w.heap.size w W0 := by rw [hW0]; exact ((Below.refl _ w).alloc (Nat.le_refl _) _).alloc (by simp) _
  have z0 : W0.heap.size = w.heap.size + 2 := by rw [hW0]; simp
  have r0 : W0.cell? ⟨w.heap.size, 0, none⟩ = some (.slice a1 n1 c1) := by rw [hW0]; simp [go_sem]
  have r1 : W0.cell? ⟨w.heap.size, 1, none⟩ = some (.slice a2 n2 c2) := by rw [hW0]; simp [go_sem]
  have hres0 : W0.rowIs (w.heap.size + 1) 34 3 (row3 (.slice none 0 0) (.slice none 0 0) (.slice none 0 0)) := by
    rw [hW0]
    have h := World.rowIs_alloc (w.alloc (.cells #[.slice a1 n1 c1, .slice a2 n2 c2, .slice a3 n3 c3] 26)) #[.slice none 0 0, .slice none 0 0, .slice none 0 0] 34 (row3 (.slice none 0 0) (.slice none 0 0) (.slice none 0 0)) (fun i hi => by
      have hi' : i < 3 := hi
      rcases (by omega : i = 0 ∨ i = 1 ∨ i = 2) with rfl | rfl | rfl <;> rfl)
    rw [World.size_alloc] at h
    exact h
  have H1 := hid h1; have H2 := hid h2; have H3 := hid h3
  clear h1 h2 h3
  go_enter Tryz.func19, Tryz.ntmps19
  go_wp2_with fail
  rw [← hW0]
  clear hW0
  refine (copy_any l.nots n3 c3 a3 W0 H3.out (by omega) (hL.nots.grown hB0)).mono ?_
  rintro e w2 ⟨b3, d3, rfl, hO2, hS2, hb2⟩
  have hB2 := below_then hB0 hb2
  have z2 := hb2.size
  have hres2 := hres0.of_block (hb2.block _ hres0.lt)
  replace r0 := cell_grown hb2 r0
  replace r1 := cell_grown hb2 r1
  clear hres0 hb2
  have hSb : ∀ i, i < l.nots.length → ∀ b off, b3 = some ⟨b, off, none⟩ → b < w2.heap.size := fun i hi b off e => by
    obtain ⟨b', off', ha, hc⟩ := hS2 i hi
    rw [e] at ha
    simp only [Option.some.injEq, Addr.mk.injEq] at ha
    rw [ha.1]
    exact lt_of_cell hc
  have hSc : ∀ i, i < l.nots.length → ∀ b off, b3 = some ⟨b, off, none⟩ → W0.heap.size ≤ b := fun i hi b off e => (hO2.lt b (by rw [e]; rfl)).1
  rw [z0] at hSc
  obtain ⟨ob, hob⟩ : ∃ b, w2.heap.size = b := ⟨_, rfl⟩
  obtain ⟨Wo, hWo⟩ : ∃ W, W = w2.alloc (.cells #[.slice none 0 0, .slice none 0 0, .slice b3 n3 d3] 34) := ⟨_, rfl⟩
  have hBo : Below w2.heap.size w2 Wo := by rw [hWo]; exact below_alloc w2 _
  have zo : Wo.heap.size = ob + 1 := by rw [hWo, World.size_alloc, hob]
  have hrow : Wo.rowIs ob 34 3 (row3 (.slice none 0 0) (.slice none 0 0) (.slice b3 n3 d3)) := by
    rw [hWo, ← hob]
    exact World.rowIs_alloc w2 #[.slice none 0 0, .slice none 0 0, .slice b3 n3 d3] 34 _ (fun i hi => by
      have hi' : i < 3 := hi
      rcases (by omega : i = 0 ∨ i = 1 ∨ i = 2) with rfl | rfl | rfl <;> rfl)
  have hBw : Below w.heap.size w Wo := below_then hB2 hBo
  have hS3 := hS2.grown hBo
  have hres3 := hres2.of_block (hBo.block _ hres2.lt)
  replace r0 := cell_grown hBo r0
  replace r1 := cell_grown hBo r1
  have zw := hB2.size
  rw [hob] at z2 zw hSb
  go_wp2_with fail
  rw [← hWo]
  clear hWo hob hBo hres2 hS2 hB2 hB0 hO2
  obtain ⟨i9, hi, hz0, hz1, hz2⟩ := info_parts Tryz.info119
  go_loopw [4] (fun i wr => ∃ (k : Nat) (v1 : Value), k ≤ n1 ∧ i = .int .i64 k ∧ wr.rowIs ob 34 3 (row3 v1 (.slice none 0 0) (.slice b3 n3 d3)) ∧ wr.ownsRow (ob + 1) 119 2 v1 k (flatV numC (l.nums.take k)) ∧ Below ob Wo wr) (fun i _ => n1 - (intOf i).toNat)
  case atStart => exact ⟨0, _, Nat.zero_le _, rfl, hrow, World.ownsRow_nil _ _ _ _, Below.refl _ _⟩
  clear hrow
  case round =>
    obtain ⟨k, v1, hk, rfl, hrow, hown, hB⟩ := hrel
    have hz := hB.size
    have q0 := cell_below hB (by omega) r0
    have q1 := cell_below hB (by omega) r1
    have ql := lt_of_cell q0
    have p0 := hrow.cell (i := 0) (by omega)
    have p1 := hrow.cell (i := 1) (by omega)
    have f0 := hrow.frozen 0
    have pl := hrow.lt
    simp only [row3] at p0 p1
    by_cases hlt : k < n1
    · have hBw1 : Below w.heap.size w wr := hBw.trans (hB.mono (by omega))
      have hkl : k < l.nums.length := by rw [H1.out]; exact hlt
      obtain ⟨b, off, rfl, e0, e1⟩ := (hL.nums.grown hBw1) k hkl
      have htk := take_next (L := l.nums) (k := k) (.empty, 0) hkl
      generalize l.nums.getD k (.empty, 0) = x at e0 e1 htk
      obtain ⟨x1, x2⟩ := x
      have HTK := hid htk
      simp only at e0 e1
      clear htk
      have gb := lt_of_cell e0
      have hstep : ∀ w3 : World, (wr.drew.alloc (.cells #[.string x1, .int .i64 x2] 119)).grownBy w3 v1.ownBlock → w3.rowIs ob 34 3 (row3 v1 (.slice none 0 0) (.slice b3 n3 d3)) ∧ Below ob Wo w3 ∧ ob < w3.heap.size ∧ w3.cell? ⟨ob, 0, none⟩ = some v1 ∧ w3.frozen? ⟨ob, 0, none⟩ = false := by
        intro w3 hgrow
        have hb3 : Below (ob + 1) wr.drew w3 := below_of_grown (Below.refl _ _) hown hgrow (by show ob + 1 ≤ wr.heap.size; omega)
        have hr3 := hrow.of_block (w' := w3) (hb3.block ob (by omega))
        exact ⟨hr3, hB.trans (((Below.refl wr.heap.size wr).drew.mono (by omega)).trans (hb3.mono (by omega))), hr3.lt, hr3.cell (i := 0) (by omega), hr3.frozen 0⟩
      go_wp2_with fail
      go_region_law (refine step_append_lies _ rfl _ _ 32 rfl (ob + 1) 119 i9 (.agg #[.string .empty, .int .i64 0]) 2 24 Tryz.underlying32 hi hz0 hz1 hz2 rfl (by decide) _ k _ rfl (hown.alloc (.cells #[.string x1, .int .i64 x2] 119)) ⟨wr.heap.size, 0, none⟩ 1 1 [.string x1, .int .i64 x2] rfl rfl (cell_two_new _ _ _ _) (fun y hy => by simp at hy; rcases hy with rfl | rfl <;> rfl) (by omega) (by unfold maxLen; omega) (by omega) (by simp; omega) (wr.heap.size + 1) (by simp) ?_; intro g cp w3 hown' hgrow hat hlt'; obtain ⟨hr3, hb3, sl, s5, f5⟩ := hstep w3 hgrow; clear hgrow hat)
      all_goals
        go_wp2
        go_roundw
        case rel => exact ⟨k + 1, _, by omega, by go_num, row3_set0 hr3 _, by rw [HTK.out, flatV_snoc]; exact ownsRow_setCell_below hown' (by simp) _, hb3.setCell (p := ⟨ob, 0, none⟩) (by simp) _⟩
        case measure => simp [intOf]; omega
    · have hkn : k = n1 := by omega
      subst hkn
      have hfull : l.nums.take k = l.nums := List.take_of_length_le (by rw [H1.out]; omega)
      rw [hfull] at hown
      have hBw1 : Below w.heap.size w wr := hBw.trans (hB.mono (by omega))
      have hS4 : Strs wr b3 l.nots := fun i hi => by
        obtain ⟨b, off, ha, hc⟩ := hS3 i hi
        refine ⟨b, off, ha, ?_⟩
        have hlt : b < ob := by have := hSb i hi b off ha; omega
        exact cell_below hB hlt hc
      have hlo := hown.lt
      obtain ⟨u1, d1, rfl⟩ := owns_shape hown
      have hNu : Nums wr u1 l.nums := nums_of_ownsN hown H1.out
      have hub : ∀ b off, u1 = some ⟨b, off, none⟩ → ob < b ∧ b < wr.heap.size := fun b off e => by
        have := hlo b (by rw [e]; rfl)
        omega
      have hres4 := hres3.of_block (hB.block _ (by omega))
      have hSb' := hSb
      have hown1 := hid hown
      clear hown hlo hres3 hS3 hfull hB p0 f0
      obtain ⟨j9, hj, hjz0, hjz1, hjz2⟩ := info_parts Tryz.info24
      go_wp2_with fail
      obtain ⟨Wp, hWp⟩ : ∃ W, W = wr := ⟨_, rfl⟩
      rw [← hWp] at hrow q0 q1 ql p1 pl hBw1 hS4 hNu hub hres4 hz ⊢
      clear hWp hown1
      clear wr
      go_loopw [5] (fun i wr => ∃ (k' : Nat) (v2 : Value) (xs : List Value), k' ≤ n2 ∧ i = .int .i64 k' ∧ wr.rowIs ob 34 3 (row3 (.slice u1 k d1) v2 (.slice b3 n3 d3)) ∧ wr.ownsRow Wp.heap.size 24 1 v2 k' xs ∧ But1 ob Wp wr ∧ Hid (NamesOk wr Wp.heap.size v2 xs (l.names.take k'))) (fun i _ => n2 - (intOf i).toNat)
      case atStart => exact ⟨0, _, [], Nat.zero_le _, rfl, hrow, World.ownsRow_nil _ _ _ _, But1.refl _ _, hid ⟨rfl, fun i hi => by simp at hi⟩⟩
      clear hrow p1 pl
      case round =>
        obtain ⟨j, v2, xs, hjn, rfl, hrow, hown, hBt, HNM⟩ := hrel
        have hzr := hBt.size
        have hBwr : Below w.heap.size w wr := hBt.below hBw1 (by omega) (by omega)
        have y1 : wr.cell? ⟨w.heap.size, 1, none⟩ = some (.slice a2 n2 c2) := hBt.cell (by omega) q1
        have yl := lt_of_cell y1
        by_cases hlt2 : j < n2
        · have hjl : j < l.names.length := by rw [H2.out]; exact hlt2
          obtain ⟨nb, noff, ai, ci, rfl, e0, e1, e2⟩ := (hL.names.grown hBwr) j hjl
          have htk := take_next (L := l.names) (k := j) [] hjl
          have hN1 := hN (l.names.getD j []) (by rw [List.getD_eq_getElem?_getD, List.getElem?_eq_getElem hjl, Option.getD_some]; exact List.getElem_mem _)
          generalize l.names.getD j [] = N at e0 e1 e2 htk hN1
          have HTK := hid htk
          clear htk
          obtain ⟨nl, hnl⟩ : ∃ n, N.length = n := ⟨_, rfl⟩
          rw [hnl] at e0 e1 hN1
          have HNL := hid hnl
          clear hnl
          have y2 := hrow.cell (i := 1) (by omega)
          have f2 := hrow.frozen 1
          simp only [row3] at y2
          have HR := hid hrow
          have hol := hrow.lt
          have hne1 : w.heap.size ≠ ob := by omega
          have hnb : nb < w.heap.size := hnbw nb noff rfl (by omega)
          have hne2 : nb ≠ ob := by omega
          have hnp : nb < Wp.heap.size := by omega
          have hbp : w.heap.size < Wp.heap.size := by omega
          have hop : ob < Wp.heap.size := by omega
          have gnb := lt_of_cell e0
          have HE2 := hid e2
          have HO := hid hown
          have HBT := hid hBt
          clear hrow e2 hown hBt
          have hBd : Below wr.heap.size wr wr.drew := (Below.refl _ _).drew
          go_wp2_with fail
          go_region_law
            (first
              | (rw [if_pos (by simp [Region.wanted])]
                 unfold Oper.wp
                 go_simp
                 go_at_call 21
                 replace y1 := cell_grown hBd y1
                 replace e0 := cell_grown hBd e0
                 replace y2 := cell_grown hBd y2
                 refine (copy_any N nl ci ai _ HNL.out (by omega) (HE2.out.grown hBd)).mono ?_
                 rintro e w4 ⟨sa, sc, rfl, hO4, hS4', hb4⟩
                 have hb14 := below_then hBd hb4
                 have hown4 := owns_below hb4 (owns_below hBd HO.out)
                 replace y1 := cell_grown hb4 y1
                 replace e0 := cell_grown hb4 e0
                 replace y2 := cell_grown hb4 y2
                 have x2 := cell_grown (below_alloc w4 (.cells #[.slice sa nl sc] 24)) y2
                 have hz4 := hb14.size)
              | (refine step_append_lies _ rfl _ _ 23 rfl Wp.heap.size 24 j9 (.slice none 0 0) 1 24 Tryz.underlying23 hj hjz0 hjz1 hjz2 rfl (by decide) _ j _ rfl (hown4.alloc (.cells #[.slice sa nl sc] 24)) ⟨w4.heap.size, 0, none⟩ 1 1 [.slice sa nl sc] rfl rfl (cells_new w4 #[.slice sa nl sc] 24) (fun x hx => by simp at hx; subst hx; rfl) (by omega) (by unfold maxLen; omega) (by omega) (by simp; omega) (w4.heap.size + 1) (by simp) ?_
                 intro g cp w5 hown' hgrow hat hlt'
                 have HG : Hid ((w4.alloc (.cells #[.slice sa nl sc] 24)).grownBy w5 v2.ownBlock) := hid hgrow
                 have HAT := hid hat
                 have hb5 : Below Wp.heap.size w4 w5 := below_of_grown (Below.refl _ _) hown4 HG.out (by omega)
                 have z5 := hb5.size
                 replace y1 := cell_below hb5 hbp y1
                 replace e0 := cell_below hb5 hnp e0
                 replace y2 := cell_below hb5 hop y2
                 have f5 : w5.frozen? ⟨ob, 1, none⟩ = false := (hb5.frozen (p := ⟨ob, 1, none⟩) hop).trans ((hb14.frozen (p := ⟨ob, 1, none⟩) hol).trans f2)
                 have l5 := lt_of_cell y2
                 clear hgrow hat))
          all_goals
            have hr5 := (HR.out.of_block (hb14.block ob hol)).of_block (w' := w5) (hb5.block ob hop)
            have hnm4 : NamesOk w4 Wp.heap.size v2 (xs ++ [.slice sa nl sc]) (l.names.take (j + 1)) := by
              have h := (HNM.out.moved (W' := w4) (v' := v2) (fun bb h1 h2 h3 => ⟨hb14.block bb h2, by omega, h3⟩)).snoc (ci := sc) hS4' (fun bb o m e => by
                have h1 := hO4.lt bb (by rw [e]; rfl)
                have h2 : wr.heap.size ≤ bb := h1.1
                refine ⟨by omega, h1.2, fun h3 => ?_⟩
                have h4 := (HO.out.lt bb h3).2
                omega)
              rw [HNL.out] at h
              rw [HTK.out]
              exact h
            have hnm5 : NamesOk (w5.setCell ⟨ob, 1, none⟩ (.slice (some ⟨g, 0, none⟩) (j + 1) cp)) Wp.heap.size (.slice (some ⟨g, 0, none⟩) (j + 1) cp) (xs ++ [.slice sa nl sc]) (l.names.take (j + 1)) := hnm4.moved (fun bb h1 h2 h3 => by
              refine ⟨?_, by simp; omega, fun h4 => ?_⟩
              · rw [RowKit.Below.heap_setCell _ _ _ _ (by show bb ≠ ob; omega), HG.out.block bb (by rw [World.size_alloc]; omega) (fun e => h3 e.symm), Below.heap_alloc _ _ _ h2]
              · have h5 : g = bb := by simpa [Value.ownBlock] using h4
                rcases HAT.out with h6 | h6
                · exact h3 (by rw [← h5]; exact h6)
                · omega)
            have HN5 := hid hnm5
            have hbt5 : But1 ob Wp (w5.setCell ⟨ob, 1, none⟩ (.slice (some ⟨g, 0, none⟩) (j + 1) cp)) := (HBT.out.over ((hb14.mono (by omega)).trans hb5)).set 1 _
            have HB5 := hid hbt5
            have HR5 := hid hr5
            have HO5 := hid hown'
            clear hnm4 hnm5 hbt5 hr5 hown' hO4 hS4' hown4
            go_wp2
            go_roundw
            case rel => exact ⟨j + 1, _, _, by omega, by go_num, row3_set1 HR5.out _, ownsRow_setCell_below HO5.out (by exact hop) _, HB5.out, HN5⟩
            case measure => simp [intOf]; omega
        · have hjn2 : j = n2 := by omega
          subst hjn2
          have hfull : l.names.take j = l.names := List.take_of_length_le (by rw [H2.out]; omega)
          have hNM := HNM.out
          rw [hfull] at hNM
          obtain ⟨u2, d2, rfl⟩ := owns_shape hown
          obtain ⟨rb, hrb⟩ : ∃ b, b = w.heap.size + 1 := ⟨_, rfl⟩
          have hres5 : wr.rowIs rb 34 3 (row3 (.slice none 0 0) (.slice none 0 0) (.slice none 0 0)) := by rw [hrb]; exact hres4.of_block (hBt.keep _ (by omega) (by omega))
          obtain ⟨W7, hW7⟩ : ∃ W, W = ((wr.setCell ⟨rb, 0, none⟩ (.slice u1 k d1)).setCell ⟨rb, 1, none⟩ (.slice u2 j d2)).setCell ⟨rb, 2, none⟩ (.slice b3 n3 d3) := ⟨_, rfl⟩
          have hmv : ∀ i, i ≠ rb → W7.heap[i]? = wr.heap[i]? := fun i hi => by
            rw [hW7, RowKit.Below.heap_setCell _ _ _ _ hi, RowKit.Below.heap_setCell _ _ _ _ hi, RowKit.Below.heap_setCell _ _ _ _ hi]
          have hs7 : W7.heap.size = wr.heap.size := by rw [hW7]; simp
          have hB7 : Below w.heap.size w W7 := by
            rw [hW7]
            exact ((hBwr.setCell (p := ⟨rb, 0, none⟩) (by rw [hrb]; exact Nat.le_succ _) _).setCell (p := ⟨rb, 1, none⟩) (by rw [hrb]; exact Nat.le_succ _) _).setCell (p := ⟨rb, 2, none⟩) (by rw [hrb]; exact Nat.le_succ _) _
          have hrow7 : W7.rowIs rb 34 3 (row3 (.slice u1 k d1) (.slice u2 j d2) (.slice b3 n3 d3)) := by
            rw [hW7]
            exact (((hres5.set 0 _).set 1 _).set 2 _).congr (fun i hi => by rcases (by omega : i = 0 ∨ i = 1 ∨ i = 2) with rfl | rfl | rfl <;> rfl)
          have hNu7 : Nums W7 u1 l.nums := fun i hi => by
            obtain ⟨b, off, ha, h1, h2⟩ := hNu i hi
            have hb := hub b off ha
            have hbl : ∀ o v, Wp.cell? ⟨b, o, none⟩ = some v → W7.cell? ⟨b, o, none⟩ = some v := fun o v h => (World.cell?_of_block (w := wr) (hmv b (by omega))).trans (hBt.cell (by omega) h)
            exact ⟨b, off, ha, hbl _ _ h1, hbl _ _ h2⟩
          have hSt7 : Strs W7 b3 l.nots := fun i hi => by
            obtain ⟨b, off, ha, h1⟩ := hS4 i hi
            have hb := hSb i hi b off ha
            have hb2 := hSc i hi b off ha
            exact ⟨b, off, ha, (World.cell?_of_block (w := wr) (hmv b (by omega))).trans (hBt.cell (by omega) h1)⟩
          have hNM7 : NamesOk W7 Wp.heap.size (.slice u2 j d2) xs l.names := hNM.moved (fun bb h1 h2 h3 => ⟨hmv bb (by omega), by omega, h3⟩)
          have hown7 : W7.ownsRow Wp.heap.size 24 1 (.slice u2 j d2) j xs := by
            rw [hW7]
            exact ownsRow_setCell_below (ownsRow_setCell_below (ownsRow_setCell_below hown (show rb < Wp.heap.size by omega) _) (show rb < Wp.heap.size by omega) _) (show rb < Wp.heap.size by omega) _
          have hlex7 : LexAt W7 u1 u2 b3 l := ⟨hNu7, lists_of_names hNM7 hown7 H2.out hN, hSt7, by rw [H1.out]; unfold maxLen; omega, by rw [H2.out]; unfold maxLen; omega, by rw [H3.out]; unfold maxLen; omega⟩
          have p0 := hrow.cell (i := 0) (by omega)
          have p1 := hrow.cell (i := 1) (by omega)
          have p2 := hrow.cell (i := 2) (by omega)
          have pl := hrow.lt
          have s0 := hres5.cell (i := 0) (by omega)
          have s1 := hres5.cell (i := 1) (by omega)
          have s2 := hres5.cell (i := 2) (by omega)
          have f0 := hres5.frozen 0
          have f1 := hres5.frozen 1
          have f2 := hres5.frozen 2
          simp only [row3] at p0 p1 p2 s0 s1 s2
          rw [hrb] at s0 s1 s2 f0 f1 f2 hW7
          have HLX := hid hlex7
          have HB7 := hid hB7
          have HR7 := hid hrow7
          clear hlex7 hB7 hrow7 hNM hNM7 hNu7 hSt7 hown7 hmv hs7 hfull HNM hNu hub hS4 hown hBt hres5 hres4
          go_wp2
          rw [← hW7]
          have g0 := HR7.out.cell (i := 0) (by omega)
          have g1 := HR7.out.cell (i := 1) (by omega)
          have g2 := HR7.out.cell (i := 2) (by omega)
          simp only [row3, hrb] at g0 g1 g2
          clear hW7 s0 s1 s2 f0 f1 f2 p0 p1 p2
          exact bodyPost_ret (v := .agg #[.slice u1 k d1, .slice u2 j d2, .slice b3 n3 d3]) (by simp [results, Tryz.f19, go_sem, g0, g1, g2]) rfl ⟨u1, u2, b3, d1, d2, d3, rfl, HLX.out, HB7.out⟩

end Go.Proofs.YtbampfkmgjfofaaGreatDoor
