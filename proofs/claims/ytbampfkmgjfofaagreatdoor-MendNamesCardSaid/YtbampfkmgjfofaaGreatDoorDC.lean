/- Mend: the segments in memory: slices.Clone, and the closures that add and keep. -/
import Derived.Test.YtbampfkmgjfofaaGreatDoorBO
import Derived.Test.YtbampfkmgjfofaaGreatDoorCX
import Derived.RangeFuncBox
namespace Go.Proofs.YtbampfkmgjfofaaGreatDoor
open Go.RowKit

theorem Tryz.info91 : (Tryz.prog.info? 91).map (fun i => (i.zero, i.size, i.bytes)) = some (some (.agg #[.slice none 0 0, .slice none 0 0, .int .i64 0]), 3, 56) := by kernel_rfl

/-- A slice of texts apart from whatever lay before. -/
def Fresh (B : Nat) (W : World) (a : Option Addr) : Prop := ∀ b o x, a = some ⟨b, o, x⟩ → B ≤ b ∧ b < W.heap.size

theorem fresh_of_owns {W : World} {base : Nat} {e : TypeId} {k : Nat} {a : Option Addr} {n cap : Nat} {xs : List Value} (h : W.ownsRow base e k (.slice a n cap) n xs) : Fresh base W a := fun b o x e => h.lt b (by rw [e]; rfl)

def ClonePost (L : List Tx) (n : Nat) (w : World) (e : Ending) (w' : World) : Prop :=
  ∃ ra rc, e = .returned (.slice ra n rc) ∧ Strs w' ra L ∧ Fresh w.heap.size w' ra ∧ Below w.heap.size w w'

set_option maxRecDepth 100000 in
set_option maxHeartbeats 1000000 in
theorem clone_any (L : List Tx) (n cap : Nat) (a : Option Addr) (w : World) (hL : L.length = n) (hn : n ≤ 1000) (hS : Strs w a L) : Calls Tryz.prog 92 #[.slice a n cap] w (ClonePost L n w) := by
  have HL := hid hL
  clear hL
  cases a with
  | none =>
    have h0 : n = 0 := by
      cases n with
      | zero => rfl
      | succ m => obtain ⟨b, off, e, _⟩ := hS 0 (by rw [HL.out]; omega); cases e
    subst h0
    have hnil := fun (w : World) => Lib.run_eql_slice_nil (P := Tryz.prog) w 24 9 none 0 cap 0 0 Tryz.underlying24
    go_enter Tryz.func92, Tryz.ntmps92
    go_wp2
    go_ret
    exact ⟨none, 0, rfl, hS, fun b o x e => (by cases e), Below.refl _ _⟩
  | some ad =>
    obtain ⟨i0, hi, hz0, hz1, hz2⟩ := info_parts Tryz.info9
    obtain ⟨W0, hW0⟩ : ∃ W, W = w.alloc (.cells #[] 9) := ⟨_, rfl⟩
    have hB0 : Below w.heap.size w W0 := by rw [hW0]; exact below_alloc w _
    have z0 := hB0.size
    have hown : W0.ownsRow w.heap.size 9 1 (.slice (some ⟨w.heap.size, 0, none⟩) 0 0) 0 [] := by
      rw [hW0]
      exact ⟨rfl, .inr ⟨w.heap.size, 0, #[], rfl, Nat.le_refl _, World.alloc_heap_new w _, Nat.le_refl _, Nat.zero_le _, rfl, rfl⟩⟩
    have hS0 := hS.grown hB0
    clear hS
    have hnil := fun (w : World) => Lib.run_eql_slice_nil (P := Tryz.prog) w 24 9 (some ad) n cap 0 0 Tryz.underlying24
    go_enter Tryz.func92, Tryz.ntmps92
    go_wp2_with (at_builtin; rw [← hW0]; refine wpList_append_strs rfl _ _ 24 rfl w.heap.size i0 Tryz.underlying24 hi hz0 hz1 hz2 _ 0 _ rfl hown (some ad) n cap L rfl HL.out hS0 (by omega) z0 ?_; intro v' w' hown' hg; have hb := Below.grown hB0 hg z0 (fun j hj => (hown.lt j hj).1); rw [Nat.zero_add, List.nil_append] at hown'; obtain ⟨ra, rc, rfl⟩ := owns_shape hown')
    go_ret
    exact ⟨ra, rc, rfl, strs_of_ownsN hown' HL.out, fresh_of_owns hown', hb⟩

/-- The cells of segments, each with texts of its own. -/
def SegsOk (W : World) (B : Nat) (v : Value) (xs : List Value) (L : List Seg) : Prop :=
  xs.length = L.length * 3 ∧ ∀ i, i < L.length → ∃ ai ci bi di, xs[i * 3]? = some (.slice ai (L.getD i default).1.length ci) ∧ xs[i * 3 + 1]? = some (.slice bi (L.getD i default).2.1.length di) ∧ xs[i * 3 + 2]? = some (.int .i64 (L.getD i default).2.2) ∧
    Strs W ai (L.getD i default).1 ∧ Strs W bi (L.getD i default).2.1 ∧ (∀ bb o m, ai = some ⟨bb, o, m⟩ → B ≤ bb ∧ bb < W.heap.size ∧ v.ownBlock ≠ some bb) ∧ (∀ bb o m, bi = some ⟨bb, o, m⟩ → B ≤ bb ∧ bb < W.heap.size ∧ v.ownBlock ≠ some bb)

theorem SegsOk.moved {W W' : World} {B : Nat} {v v' : Value} {xs : List Value} {L : List Seg} (h : SegsOk W B v xs L)
    (hk : ∀ bb, B ≤ bb → bb < W.heap.size → v.ownBlock ≠ some bb → W'.heap[bb]? = W.heap[bb]? ∧ bb < W'.heap.size ∧ v'.ownBlock ≠ some bb) : SegsOk W' B v' xs L := by
  refine ⟨h.1, fun i hi => ?_⟩
  obtain ⟨ai, ci, bi, di, k0, k1, k2, h1, h2, h3, h4⟩ := h.2 i hi
  refine ⟨ai, ci, bi, di, k0, k1, k2, fun j hj => ?_, fun j hj => ?_, fun bb o m e => ?_, fun bb o m e => ?_⟩
  · obtain ⟨b, off, ha, hc⟩ := h1 j hj
    obtain ⟨g1, g2, g3⟩ := h3 b off none ha
    exact ⟨b, off, ha, (World.cell?_of_block (w := W) (hk b g1 g2 g3).1).trans hc⟩
  · obtain ⟨b, off, ha, hc⟩ := h2 j hj
    obtain ⟨g1, g2, g3⟩ := h4 b off none ha
    exact ⟨b, off, ha, (World.cell?_of_block (w := W) (hk b g1 g2 g3).1).trans hc⟩
  · obtain ⟨g1, g2, g3⟩ := h3 bb o m e
    exact ⟨g1, (hk bb g1 g2 g3).2⟩
  · obtain ⟨g1, g2, g3⟩ := h4 bb o m e
    exact ⟨g1, (hk bb g1 g2 g3).2⟩

theorem SegsOk.snoc {W : World} {B : Nat} {v : Value} {xs : List Value} {L : List Seg} (h : SegsOk W B v xs L) {s : Seg} {ai bi : Option Addr} {n m ci di : Nat} (hn : s.1.length = n) (hm : s.2.1.length = m) (hA : Strs W ai s.1) (hB : Strs W bi s.2.1)
    (ha : ∀ bb o m, ai = some ⟨bb, o, m⟩ → B ≤ bb ∧ bb < W.heap.size ∧ v.ownBlock ≠ some bb) (hb : ∀ bb o m, bi = some ⟨bb, o, m⟩ → B ≤ bb ∧ bb < W.heap.size ∧ v.ownBlock ≠ some bb) :
    SegsOk W B v (xs ++ [.slice ai n ci, .slice bi m di, .int .i64 s.2.2]) (L ++ [s]) := by
  subst hn
  subst hm
  have hl := h.1
  refine ⟨by rw [List.length_append, List.length_append, hl, Nat.add_mul]; rfl, fun i hi => ?_⟩
  rw [List.length_append, List.length_singleton] at hi
  by_cases e : i < L.length
  · obtain ⟨aj, cj, bj, dj, k0, k1, k2, h1, h2, h3, h4⟩ := h.2 i e
    have hg : (L ++ [s]).getD i default = L.getD i default := by simp [List.getD_eq_getElem?_getD, List.getElem?_append_left e]
    rw [hg]
    refine ⟨aj, cj, bj, dj, ?_, ?_, ?_, h1, h2, h3, h4⟩
    all_goals rw [List.getElem?_append_left (by rw [hl]; omega)]; assumption
  · have e' : i = L.length := by omega
    subst e'
    have hg : (L ++ [s]).getD L.length default = s := by simp [List.getD_eq_getElem?_getD]
    rw [hg]
    refine ⟨ai, ci, bi, di, ?_, ?_, ?_, hA, hB, ha, hb⟩
    all_goals rw [List.getElem?_append_right (by rw [hl]; omega), hl]; simp

/-- Segments that lie somewhere. -/
def SegsAt (w : World) (a : Option Addr) (L : List Seg) : Prop := ∀ i, i < L.length → ∃ b off ai ci bi di, a = some ⟨b, off, none⟩ ∧
  w.cell? ⟨b, off + i * 3, none⟩ = some (.slice ai (L.getD i default).1.length ci) ∧ w.cell? ⟨b, off + i * 3 + 1, none⟩ = some (.slice bi (L.getD i default).2.1.length di) ∧ w.cell? ⟨b, off + i * 3 + 2, none⟩ = some (.int .i64 (L.getD i default).2.2) ∧
  Strs w ai (L.getD i default).1 ∧ Strs w bi (L.getD i default).2.1

theorem SegsAt.grown {w w' : World} {a : Option Addr} {L : List Seg} (h : SegsAt w a L) (hb : Below w.heap.size w w') : SegsAt w' a L := fun i hi =>
  let ⟨b, off, ai, ci, bi, di, ha, h0, h1, h2, h3, h4⟩ := h i hi
  ⟨b, off, ai, ci, bi, di, ha, cell_grown hb h0, cell_grown hb h1, cell_grown hb h2, h3.grown hb, h4.grown hb⟩

theorem segs_of_ok {W : World} {B base n cap : Nat} {a : Option Addr} {xs : List Value} {L : List Seg} (h : SegsOk W B (.slice a n cap) xs L) (hown : W.ownsRow base 91 3 (.slice a n cap) n xs) (hL : L.length = n) : SegsAt W a L := by
  intro i hi
  obtain ⟨ai, ci, bi, di, k0, k1, k2, h1, h2, -, -⟩ := h.2 i hi
  obtain ⟨b, -, ha, hc⟩ := owns_cells hown (by omega)
  exact ⟨b, 0, ai, ci, bi, di, ha, by rw [Nat.zero_add]; exact hc _ _ k0, by rw [Nat.zero_add]; exact hc _ _ k1, by rw [Nat.zero_add]; exact hc _ _ k2, h1, h2⟩

/-- A world that is as another one was, but for two boxes. -/
structure But2 (b3 b4 : Nat) (Wp W : World) : Prop where
  os : W.os = Wp.os
  tape : W.tape = Wp.tape
  output : W.output = Wp.output
  size : Wp.heap.size ≤ W.heap.size
  keep : ∀ k, k < Wp.heap.size → k ≠ b3 → k ≠ b4 → W.heap[k]? = Wp.heap[k]?

theorem But2.refl (b3 b4 : Nat) (W : World) : But2 b3 b4 W W := ⟨rfl, rfl, rfl, Nat.le_refl _, fun _ _ _ _ => rfl⟩
theorem But2.over {b3 b4 : Nat} {Wp W W' : World} (h : But2 b3 b4 Wp W) (k : Below Wp.heap.size W W') : But2 b3 b4 Wp W' :=
  ⟨k.os.trans h.os, k.tape.trans h.tape, k.output.trans h.output, Nat.le_trans h.size k.size, fun j hj h1 h2 => (k.block j hj).trans (h.keep j hj h1 h2)⟩
theorem But2.set {b3 b4 b : Nat} {Wp W : World} (h : But2 b3 b4 Wp W) (hb : b = b3 ∨ b = b4) (o : Nat) (v : Value) : But2 b3 b4 Wp (W.setCell ⟨b, o, none⟩ v) :=
  ⟨h.os, h.tape, h.output, by have := h.size; simpa using this, fun j hj h1 h2 => (RowKit.Below.heap_setCell _ _ _ _ (by rcases hb with rfl | rfl <;> assumption)).trans (h.keep j hj h1 h2)⟩
theorem But2.below {b3 b4 B : Nat} {w Wp W : World} (h : But2 b3 b4 Wp W) (hb : Below B w Wp) (h3 : B ≤ b3) (h4 : B ≤ b4) (h2 : B ≤ Wp.heap.size) : Below B w W :=
  ⟨h.os.trans hb.os, h.tape.trans hb.tape, h.output.trans hb.output, Nat.le_trans hb.size h.size, fun k hk => (h.keep k (by omega) (by omega) (by omega)).trans (hb.block k hk)⟩
theorem But2.cell {b3 b4 : Nat} {Wp W : World} (h : But2 b3 b4 Wp W) {b o : Nat} {v : Value} (h1 : b ≠ b3) (h2 : b ≠ b4) (hc : Wp.cell? ⟨b, o, none⟩ = some v) : W.cell? ⟨b, o, none⟩ = some v :=
  (World.cell?_of_block (w := Wp) (h.keep b (lt_of_cell hc) h1 h2)).trans hc

/-- The list so far, and the first word that is in none of it yet. -/
structure SegSt (Wp : World) (b3 b4 : Nat) (L : List Seg) (nx : Nat) (v : Value) (W : World) : Prop where
  but : But2 b3 b4 Wp W
  box : Boxed W b3 74 v
  own : ∃ xs, W.ownsRow Wp.heap.size 91 3 v L.length xs ∧ SegsOk W Wp.heap.size v xs L
  nxt : Boxed W b4 3 (.int .i64 (nx : Int))

theorem SegSt.grown {Wp : World} {b3 b4 : Nat} {L : List Seg} {nx : Nat} {v : Value} {W W' : World} (h : SegSt Wp b3 b4 L nx v W) (hb : Below W.heap.size W W') : SegSt Wp b3 b4 L nx v W' := by
  obtain ⟨xs, ho, hs⟩ := h.own
  exact ⟨h.but.over (hb.mono h.but.size), (hb.block _ h.box.lt).trans h.box, ⟨xs, owns_below hb ho, hs.moved fun bb h1 h2 h3 => ⟨hb.block bb h2, Nat.lt_of_lt_of_le h2 hb.size, h3⟩⟩, (hb.block _ h.nxt.lt).trans h.nxt⟩

/-- What the closures know of the report: the hearing, its words, its box. -/
structure SegEnv (Wp : World) (b1 b3 b4 hb : Nat) (wa : Option Addr) (wn wc : Nat) (R : List (Tx × Int)) : Prop where
  n1 : b1 ≠ b3 ∧ b1 ≠ b4
  n3 : b3 ≠ b4
  nh : hb ≠ b3 ∧ hb ≠ b4
  l3 : b3 < Wp.heap.size
  l4 : b4 < Wp.heap.size
  ptr : Wp.cell? ⟨b1, 0, none⟩ = some (.pointer (some ⟨hb, 0, none⟩))
  words : Wp.cell? ⟨hb, 0, none⟩ = some (.slice wa wn wc)
  len : R.length = wn
  few : wn ≤ 80
  room : wn ≤ wc
  nums : ∀ W, But2 b3 b4 Wp W → Nums W wa R

/-- What stays as it was, where the list grows. -/
structure Stays (b3 b4 : Nat) (v v' : Value) (W W' : World) : Prop where
  size : W.heap.size ≤ W'.heap.size
  same : ∀ j, j < W.heap.size → j ≠ b3 → j ≠ b4 → v.ownBlock ≠ some j → W'.heap[j]? = W.heap[j]?
  own : ∀ j, v'.ownBlock = some j → v.ownBlock = some j ∨ W.heap.size ≤ j

def AddPost (Wp : World) (b3 b4 : Nat) (L : List Seg) (nx : Nat) (v : Value) (W : World) (e : Ending) (W' : World) : Prop :=
  e = .returned (.tuple #[]) ∧ ∃ v', SegSt Wp b3 b4 L nx v' W' ∧ Stays b3 b4 v v' W W'

set_option maxRecDepth 100000 in
set_option maxHeartbeats 4000000 in
theorem add_any (Wp : World) (b1 b3 b4 hb : Nat) (wa : Option Addr) (wn wc : Nat) (R : List (Tx × Int)) (E : SegEnv Wp b1 b3 b4 hb wa wn wc R) (L : List Seg) (nx k : Nat) (v : Value) (na : Option Addr) (nl nc : Nat) (N : List Tx) (req : Int) (W : World)
    (hst : SegSt Wp b3 b4 L nx v W) (hk : nx + k ≤ wn) (hL : L.length ≤ 1000) (hN : N.length = nl) (hNS : Strs W na N) (hNF : ∀ b o x, na = some ⟨b, o, x⟩ → Wp.heap.size ≤ b ∧ b < W.heap.size ∧ v.ownBlock ≠ some b) :
    Calls Tryz.prog 83 #[.int .i64 ((nx : Int) + (k : Int)), .slice na nl nc, .int .i64 req, .pointer (some ⟨b3, 0, none⟩), .pointer (some ⟨b1, 0, none⟩), .pointer (some ⟨b4, 0, none⟩)] W (AddPost Wp b3 b4 (L ++ [(textsM R nx k, N, req)]) (nx + k) v W) := by
  obtain ⟨i9, hi, hz0, hz1, hz2⟩ := info_parts Tryz.info91
  have y0 : W.cell? ⟨b3, 0, none⟩ = some v := hst.box.cell
  have y1 : W.cell? ⟨b1, 0, none⟩ = some (.pointer (some ⟨hb, 0, none⟩)) := hst.but.cell E.n1.1 E.n1.2 E.ptr
  have y2 : W.cell? ⟨b4, 0, none⟩ = some (.int .i64 (nx : Int)) := hst.nxt.cell
  have y3 : W.cell? ⟨hb, 0, none⟩ = some (.slice wa wn wc) := hst.but.cell E.nh.1 E.nh.2 E.words
  have f0 := hst.box.frozen
  have f2 := hst.nxt.frozen
  have g0 := lt_of_cell y0
  have g1 := lt_of_cell y1
  have g2 := lt_of_cell y2
  have hsz := hst.but.size
  have hBd : Below W.heap.size W W.drew := (Below.refl _ _).drew
  obtain ⟨xs, hown, hsok⟩ := hst.own
  obtain ⟨sa, sc, rfl⟩ := owns_shape hown
  obtain ⟨ln, hln⟩ : ∃ n, L.length = n := ⟨_, rfl⟩
  rw [hln] at hown hL y0 hsok hNF
  have HLN := hid hln
  have HO := hid hown
  have HOK := hid hsok
  have HST := hid hst
  have HN := hid hN
  have HNS := hid hNS
  have HNF := hid hNF
  have HE := hid E
  have kb : (nx : Int) + (k : Int) ≤ 80 := by have := E.few; omega
  have k0 : (0 : Int) ≤ (nx : Int) := by omega
  have k1 : (0 : Int) ≤ (k : Int) := by omega
  have h34 := E.n3
  have l3 := E.l3
  have l4 := E.l4
  clear hown hsok hst hN hNS hNF E hln
  go_enter Tryz.func83, Tryz.ntmps83
  go_wp2_with fail
  go_region_law
    (first
      | (rw [if_pos (by simp [Region.wanted])]
         unfold Oper.wp
         go_simp
         go_at_call 84
         replace y0 := cell_grown hBd y0
         replace y1 := cell_grown hBd y1
         replace y2 := cell_grown hBd y2
         refine (texts_any hb wa wn wc R nx k _ (cell_grown hBd y3) HE.out.len HE.out.few HE.out.room ((HE.out.nums _ HST.out.but).grown hBd) hk).mono ?_
         rintro e w4 ⟨ta, tc, rfl, hO4, hb4⟩
         have hb14 := below_then hBd hb4
         have hown4 := owns_below hb4 (owns_below hBd HO.out)
         replace y0 := cell_grown hb4 y0
         replace y1 := cell_grown hb4 y1
         replace y2 := cell_grown hb4 y2
         have x2 := cell_grown (below_alloc w4 (.cells #[.slice ta k tc, .slice na nl nc, .int .i64 req] 91)) y0
         have hz4 := hb14.size)
      | (refine step_append_lies _ rfl _ _ 74 rfl Wp.heap.size 91 i9 (.agg #[.slice none 0 0, .slice none 0 0, .int .i64 0]) 3 56 Tryz.underlying74 hi hz0 hz1 hz2 rfl (by decide) _ ln _ rfl (hown4.alloc (.cells #[.slice ta k tc, .slice na nl nc, .int .i64 req] 91)) ⟨w4.heap.size, 0, none⟩ 1 1 [.slice ta k tc, .slice na nl nc, .int .i64 req] rfl rfl (cells_new w4 #[.slice ta k tc, .slice na nl nc, .int .i64 req] 91) (fun x hx => by simp at hx; rcases hx with rfl | rfl | rfl <;> rfl) (by omega) (by unfold maxLen; omega) (by omega) (by simp; omega) (w4.heap.size + 1) (by simp) ?_
         intro g cp w5 hown' hgrow hat hlt'
         have HG : Hid ((w4.alloc (.cells #[.slice ta k tc, .slice na nl nc, .int .i64 req] 91)).grownBy w5 (Value.slice sa ln sc).ownBlock) := hid hgrow
         have HAT := hid hat
         have hb5 : Below Wp.heap.size w4 w5 := below_of_grown (Below.refl _ _) hown4 HG.out (by omega)
         have z5 := hb5.size
         replace y0 := cell_below hb5 l3 y0
         replace y2 := cell_below hb5 l4 y2
         have f5 : w5.frozen? ⟨b3, 0, none⟩ = false := (hb5.frozen (p := ⟨b3, 0, none⟩) l3).trans ((hb14.frozen (p := ⟨b3, 0, none⟩) g0).trans f0)
         have f6 : w5.frozen? ⟨b4, 0, none⟩ = false := (hb5.frozen (p := ⟨b4, 0, none⟩) l4).trans ((hb14.frozen (p := ⟨b4, 0, none⟩) g2).trans f2)
         have l5 := lt_of_cell y0
         have l6 := lt_of_cell y2
         clear hgrow hat))
  all_goals
    have hO5 := hid hown'
    have hbx5 : Boxed w5 b3 74 (.slice sa ln sc) := (hb5.block b3 l3).trans ((hb14.block b3 g0).trans (by rw [← HLN.out]; exact HST.out.box))
    have hnx5 : Boxed w5 b4 3 (.int .i64 (nx : Int)) := (hb5.block b4 l4).trans ((hb14.block b4 g2).trans HST.out.nxt)
    have hbt5 : But2 b3 b4 Wp w5 := HST.out.but.over ((hb14.mono hsz).trans hb5)
    have hok4 : SegsOk w4 Wp.heap.size (.slice sa ln sc) (xs ++ [.slice ta k tc, .slice na nl nc, .int .i64 req]) (L ++ [(textsM R nx k, N, req)]) := by
      have h := (HOK.out.moved (W' := w4) (v' := .slice sa ln sc) (fun bb h1 h2 h3 => ⟨hb14.block bb h2, by omega, h3⟩))
      refine h.snoc (s := (textsM R nx k, N, req)) (textsM_length HE.out.len hk) HN.out (strs_of_ownsN hO4 (textsM_length HE.out.len hk)) ((HNS.out.grown hBd).grown hb4) (fun bb o m e => ?_) (fun bb o m e => ?_)
      · have h1 := hO4.lt bb (by rw [e]; rfl)
        have h2 : W.heap.size ≤ bb := h1.1
        refine ⟨by omega, h1.2, fun h3 => ?_⟩
        have h4 := (HO.out.lt bb h3).2
        omega
      · obtain ⟨h1, h2, h3⟩ := HNF.out bb o m e
        exact ⟨h1, by omega, h3⟩
    have hok5 : ∀ X : World, (∀ j, j ≠ b3 → j ≠ b4 → X.heap[j]? = w5.heap[j]?) → X.heap.size = w5.heap.size → SegsOk X Wp.heap.size (.slice (some ⟨g, 0, none⟩) (ln + 1) cp) (xs ++ [.slice ta k tc, .slice na nl nc, .int .i64 req]) (L ++ [(textsM R nx k, N, req)]) := fun X hX hXs => hok4.moved (fun bb h1 h2 h3 => by
      refine ⟨?_, by omega, fun h4 => ?_⟩
      · rw [hX bb (by omega) (by omega), HG.out.block bb (by rw [World.size_alloc]; omega) (fun e => h3 e.symm), Below.heap_alloc _ _ _ h2]
      · have h5 : g = bb := by simpa [Value.ownBlock] using h4
        rcases HAT.out with h6 | h6
        · exact h3 (by rw [← h5]; exact h6)
        · omega)
    have HOK5 := hid hok5
    have hstay : ∀ X : World, (∀ j, j ≠ b3 → j ≠ b4 → X.heap[j]? = w5.heap[j]?) → X.heap.size = w5.heap.size → Stays b3 b4 (.slice sa ln sc) (.slice (some ⟨g, 0, none⟩) (ln + 1) cp) W X := fun X hX hXs => by
      refine ⟨by omega, fun j h1 h2 h3 h4 => ?_, fun j h1 => ?_⟩
      · rw [hX j h2 h3, HG.out.block j (by rw [World.size_alloc]; omega) (fun e => h4 e.symm), Below.heap_alloc _ _ _ (by omega)]
        exact hb14.block j h1
      · have h5 : g = j := by simpa [Value.ownBlock] using h1
        rcases HAT.out with h6 | h6
        · exact .inl (by rw [← h5]; exact h6)
        · exact .inr (by omega)
    have HSY := hid hstay
    have HBX := hid hbx5
    have HNX := hid hnx5
    have HBT := hid hbt5
    clear hok4 hok5 hstay hown' hown4 hO4 hbx5 hnx5 hbt5
    go_wp2
    refine bodyPost_end (results_none rfl _ _ _) rfl ?_
    refine ⟨rfl, .slice (some ⟨g, 0, none⟩) (ln + 1) cp, ⟨(HBT.out.set (.inl rfl) 0 _).set (.inr rfl) 0 _, (HBX.out.set _).other h34 _, ⟨_, ?_, HOK5.out _ (fun j h1 h2 => (RowKit.Below.heap_setCell _ _ _ _ h2).trans (RowKit.Below.heap_setCell _ _ _ _ h1)) (by simp)⟩, ?_⟩, by rw [HLN.out]; exact HSY.out _ (fun j h1 h2 => (RowKit.Below.heap_setCell _ _ _ _ h2).trans (RowKit.Below.heap_setCell _ _ _ _ h1)) (by simp)⟩
    · rw [List.length_append, List.length_singleton, HLN.out]
      exact ownsRow_setCell_below (ownsRow_setCell_below hO5.out (by exact l3) _) (by exact l4) _
    · rw [Int.natCast_add]
      exact ((HNX.out.other (fun e => h34 e.symm) _).set _)

end Go.Proofs.YtbampfkmgjfofaaGreatDoor
