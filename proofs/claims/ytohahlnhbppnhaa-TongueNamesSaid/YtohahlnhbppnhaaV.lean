/- Tongue: a match of two texts, step by step. Tongue: which steps are a match. -/
import Derived.Test.YtohahlnhbppnhaaT
namespace Go.Proofs.Ytohahlnhbppnhaa
open Go.RowKit
set_option linter.unusedSimpArgs false
set_option linter.unusedVariables false

/-- The steps as they are taken, with their places; and where they end. -/
def goM (nl nr : Nat) : List (Int × Int) → Nat → Nat → Option (List (Nat × Nat × Nat × Nat) × Nat × Nat)
  | [], i, k => some ([], i, k)
  | s :: l, i, k => match takeM nl nr i k s.1 s.2 with
    | none => none
    | some t => (goM nl nr l (i + t.1) (k + t.2)).map fun r => ((i, k, t.1, t.2) :: r.1, r.2)

theorem goM_snoc (nl nr : Nat) (l : List (Int × Int)) (s : Int × Int) : ∀ i k, goM nl nr (l ++ [s]) i k = match goM nl nr l i k with
    | none => none
    | some (ms, a, c) => match takeM nl nr a c s.1 s.2 with
      | none => none
      | some t => some (ms ++ [(a, c, t.1, t.2)], a + t.1, c + t.2) := by
  induction l with
  | nil =>
    intro i k
    simp only [List.nil_append, goM]
    cases takeM nl nr i k s.1 s.2 <;> rfl
  | cons x l ih =>
    intro i k
    simp only [List.cons_append, goM]
    cases hx : takeM nl nr i k x.1 x.2 with
    | none => rfl
    | some t =>
      simp only [ih]
      cases goM nl nr l (i + t.1) (k + t.2) with
      | none => rfl
      | some r =>
        obtain ⟨ms, a, c⟩ := r
        simp only [Option.map_some]
        cases takeM nl nr a c s.1 s.2 <;> rfl

theorem goM_none (nl nr : Nat) (l m : List (Int × Int)) : ∀ i k, goM nl nr l i k = none → goM nl nr (l ++ m) i k = none := by
  induction l with
  | nil => intro i k h; cases h
  | cons x l ih =>
    intro i k h
    simp only [List.cons_append, goM] at h ⊢
    cases hx : takeM nl nr i k x.1 x.2 with
    | none => rfl
    | some t =>
      rw [hx] at h
      simp only [Option.map_eq_none_iff] at h ⊢
      exact ih _ _ h

theorem take_mem {nl nr i k : Nat} {x y : Int} {t : Nat × Nat} (h : takeM nl nr i k x y = some t) : t ∈ movesM nl nr i k ∧ (t.1 : Int) = x ∧ (t.2 : Int) = y := by
  unfold takeM at h
  have h2 := List.find?_some h
  simp only [isStep, decide_eq_true_eq] at h2
  exact ⟨List.mem_of_find?_eq_some h, h2⟩

theorem goM_le {nl nr : Nat} {l : List (Int × Int)} : ∀ {i k a c : Nat} {ms : List (Nat × Nat × Nat × Nat)}, i ≤ nl → k ≤ nr → goM nl nr l i k = some (ms, a, c) → a ≤ nl ∧ c ≤ nr ∧ ms.length = l.length ∧
    ∀ m ∈ ms, m.1 + m.2.2.1 ≤ nl ∧ m.2.1 + m.2.2.2 ≤ nr ∧ m.2.2.1 ≤ 2 ∧ m.2.2.2 ≤ 2 ∧ 1 ≤ m.2.2.1 + m.2.2.2 := by
  induction l with
  | nil =>
    intro i k a c ms hi hk h
    simp only [goM, Option.some.injEq, Prod.mk.injEq] at h
    obtain ⟨rfl, rfl, rfl⟩ := h
    exact ⟨hi, hk, rfl, fun m hm => by cases hm⟩
  | cons x l ih =>
    intro i k a c ms hi hk h
    simp only [goM] at h
    cases hx : takeM nl nr i k x.1 x.2 with
    | none => rw [hx] at h; cases h
    | some t =>
      rw [hx] at h
      simp only at h
      have hm := mem_moves (take_mem hx).1
      cases hg : goM nl nr l (i + t.1) (k + t.2) with
      | none => rw [hg] at h; cases h
      | some r =>
        rw [hg] at h
        obtain ⟨ms', a', c'⟩ := r
        simp only [Option.map_some, Option.some.injEq, Prod.mk.injEq] at h
        obtain ⟨rfl, rfl, rfl⟩ := h
        obtain ⟨g1, g2, g3, g4⟩ := ih (by omega) (by omega) hg
        refine ⟨g1, g2, by simp [g3], fun m hm' => ?_⟩
        rcases List.mem_cons.1 hm' with rfl | hm'
        · simp only; omega
        · exact g4 m hm'

/-- The steps, if they are a match. -/
def matchM (nl nr : Nat) (l : List (Int × Int)) : Option (List (Nat × Nat × Nat × Nat)) := match goM nl nr l 0 0 with
  | none => none
  | some (ms, a, c) => if a = nl ∧ c = nr then some ms else none

/-- Steps that are taken, as cells. -/
def flatMV (la : Option Addr) (cl : Nat) (ra : Option Addr) (cr : Nat) : List (Nat × Nat × Nat × Nat) → List Value
  | [] => []
  | m :: l => .int .i64 (m.2.2.1 : Int) :: .int .i64 (m.2.2.2 : Int) :: .slice (subA la cl m.1 2) m.2.2.1 (cl - m.1) :: .int .u8 0 :: .int .i64 (m.1 : Int) :: .slice (subA ra cr m.2.1 2) m.2.2.2 (cr - m.2.1) :: .int .u8 1 :: .int .i64 (m.2.1 : Int) :: flatMV la cl ra cr l

theorem flatMV_append (la : Option Addr) (cl : Nat) (ra : Option Addr) (cr : Nat) (l m : List (Nat × Nat × Nat × Nat)) : flatMV la cl ra cr (l ++ m) = flatMV la cl ra cr l ++ flatMV la cl ra cr m := by
  induction l with
  | nil => rfl
  | cons x l ih => simp [flatMV, ih]

theorem flatMV_get (la : Option Addr) (cl : Nat) (ra : Option Addr) (cr : Nat) (l : List (Nat × Nat × Nat × Nat)) : ∀ j, j < l.length → ∀ m, l.getD j default = m →
    (flatMV la cl ra cr l)[j * 8]? = some (.int .i64 (m.2.2.1 : Int)) ∧ (flatMV la cl ra cr l)[j * 8 + 1]? = some (.int .i64 (m.2.2.2 : Int)) ∧ (flatMV la cl ra cr l)[j * 8 + 2]? = some (.slice (subA la cl m.1 2) m.2.2.1 (cl - m.1)) ∧ (flatMV la cl ra cr l)[j * 8 + 3]? = some (.int .u8 0) ∧ (flatMV la cl ra cr l)[j * 8 + 4]? = some (.int .i64 (m.1 : Int)) ∧ (flatMV la cl ra cr l)[j * 8 + 5]? = some (.slice (subA ra cr m.2.1 2) m.2.2.2 (cr - m.2.1)) ∧ (flatMV la cl ra cr l)[j * 8 + 6]? = some (.int .u8 1) ∧ (flatMV la cl ra cr l)[j * 8 + 7]? = some (.int .i64 (m.2.1 : Int)) := by
  induction l with
  | nil => intro j h; simp at h
  | cons x l ih =>
    intro j h m hm
    cases j with
    | zero => simp at hm; subst hm; simp [flatMV]
    | succ j =>
      have := ih j (by simpa using h) m (by simpa using hm)
      rw [show (j + 1) * 8 = j * 8 + 8 from by omega]
      simpa [flatMV] using this

/-- Steps that are taken, as they lie in memory. -/
def MovesAt (w : World) (a la : Option Addr) (cl : Nat) (ra : Option Addr) (cr : Nat) (l : List (Nat × Nat × Nat × Nat)) : Prop :=
  ∀ j, j < l.length → ∃ b off, a = some ⟨b, off, none⟩ ∧ ∀ m, l.getD j default = m → w.cell? ⟨b, off + j * 8, none⟩ = some (.int .i64 (m.2.2.1 : Int)) ∧ w.cell? ⟨b, off + j * 8 + 1, none⟩ = some (.int .i64 (m.2.2.2 : Int)) ∧ w.cell? ⟨b, off + j * 8 + 2, none⟩ = some (.slice (subA la cl m.1 2) m.2.2.1 (cl - m.1)) ∧ w.cell? ⟨b, off + j * 8 + 3, none⟩ = some (.int .u8 0) ∧ w.cell? ⟨b, off + j * 8 + 4, none⟩ = some (.int .i64 (m.1 : Int)) ∧ w.cell? ⟨b, off + j * 8 + 5, none⟩ = some (.slice (subA ra cr m.2.1 2) m.2.2.2 (cr - m.2.1)) ∧ w.cell? ⟨b, off + j * 8 + 6, none⟩ = some (.int .u8 1) ∧ w.cell? ⟨b, off + j * 8 + 7, none⟩ = some (.int .i64 (m.2.1 : Int))

theorem MovesAt.grown {w w' : World} {a la : Option Addr} {cl : Nat} {ra : Option Addr} {cr : Nat} {l : List (Nat × Nat × Nat × Nat)} (h : MovesAt w a la cl ra cr l) (hb : Below w.heap.size w w') : MovesAt w' a la cl ra cr l := fun j hj => by
  obtain ⟨b, off, ha, h1⟩ := h j hj
  refine ⟨b, off, ha, fun m hm => ?_⟩
  obtain ⟨c0, c1, c2, c3, c4, c5, c6, c7⟩ := h1 m hm
  exact ⟨cell_grown hb c0, cell_grown hb c1, cell_grown hb c2, cell_grown hb c3, cell_grown hb c4, cell_grown hb c5, cell_grown hb c6, cell_grown hb c7⟩

theorem moves_of_owns {W : World} {base : Nat} {e : TypeId} {a la : Option Addr} {cl : Nat} {ra : Option Addr} {cr cap : Nat} {T : List (Nat × Nat × Nat × Nat)} (h : W.ownsRow base e 8 (.slice a T.length cap) T.length (flatMV la cl ra cr T)) : MovesAt W a la cl ra cr T := by
  intro i hi
  rcases h.2 with ⟨_, h0⟩ | ⟨g, cap', cur, hv, _, hg, _⟩
  · omega
  · simp only [Value.slice.injEq] at hv
    obtain ⟨rfl, -, -⟩ := hv
    have hc := h.cells (g := g) rfl
    have hadd : ∀ j, (⟨g, 0, none⟩ : Addr).add j = ⟨g, 0 + j, none⟩ := fun j => by unfold Addr.add; split <;> simp_all
    refine ⟨g, 0, rfl, fun m hm => ?_⟩
    obtain ⟨e0, e1, e2, e3, e4, e5, e6, e7⟩ := flatMV_get la cl ra cr T i hi m hm
    have c0 := hc _ _ e0
    have c1 := hc _ _ e1
    have c2 := hc _ _ e2
    have c3 := hc _ _ e3
    have c4 := hc _ _ e4
    have c5 := hc _ _ e5
    have c6 := hc _ _ e6
    have c7 := hc _ _ e7
    rw [hadd] at c0 c1 c2 c3 c4 c5 c6 c7
    exact ⟨c0, by rw [Nat.add_assoc]; exact c1, by rw [Nat.add_assoc]; exact c2, by rw [Nat.add_assoc]; exact c3, by rw [Nat.add_assoc]; exact c4, by rw [Nat.add_assoc]; exact c5, by rw [Nat.add_assoc]; exact c6, by rw [Nat.add_assoc]; exact c7⟩

/-- Whole numbers two by two, as they lie in memory. -/
def PairsAt (w : World) (a : Option Addr) (l : List (Int × Int)) : Prop :=
  ∀ i, i < l.length → ∃ b off, a = some ⟨b, off, none⟩ ∧ w.cell? ⟨b, off + i * 2, none⟩ = some (.int .i64 (l.getD i (0, 0)).1) ∧ w.cell? ⟨b, off + i * 2 + 1, none⟩ = some (.int .i64 (l.getD i (0, 0)).2)

theorem PairsAt.grown {w w' : World} {a : Option Addr} {l : List (Int × Int)} (h : PairsAt w a l) (hb : Below w.heap.size w w') : PairsAt w' a l := fun i hi =>
  let ⟨b, off, ha, h1, h2⟩ := h i hi
  ⟨b, off, ha, cell_grown hb h1, cell_grown hb h2⟩

end Go.Proofs.Ytohahlnhbppnhaa

namespace Go.Proofs.Ytohahlnhbppnhaa
open Go.RowKit
set_option linter.unusedSimpArgs false
set_option linter.unusedVariables false

theorem Try.info155 : (Try.prog.info? 155).map (fun i => (i.zero, i.size, i.bytes)) = some (some (.agg #[.int .i64 0, .int .i64 0, .slice none 0 0, .int .u8 0, .int .i64 0, .slice none 0 0, .int .u8 0, .int .i64 0]), 8, 96) := by kernel_rfl

theorem eight_new (w : World) (v0 v1 v2 v3 v4 v5 v6 v7 : Value) (t : TypeId) : ∀ j u, [v0, v1, v2, v3, v4, v5, v6, v7][j]? = some u → (w.alloc (.cells #[v0, v1, v2, v3, v4, v5, v6, v7] t)).cell? ((⟨w.heap.size, 0, none⟩ : Addr).add j) = some u := by
  intro j u hj
  match j, hj with
  | 0, hj => simp at hj; subst hj; simp [Addr.add]
  | 1, hj => simp at hj; subst hj; simp [Addr.add]
  | 2, hj => simp at hj; subst hj; simp [Addr.add]
  | 3, hj => simp at hj; subst hj; simp [Addr.add]
  | 4, hj => simp at hj; subst hj; simp [Addr.add]
  | 5, hj => simp at hj; subst hj; simp [Addr.add]
  | 6, hj => simp at hj; subst hj; simp [Addr.add]
  | 7, hj => simp at hj; subst hj; simp [Addr.add]
  | j + 8, hj => simp at hj

set_option maxRecDepth 100000 in
theorem place_neq (a c nl nr : Nat) (w : World) : (binOp .neq 150 (.agg #[.int .i64 (a : Int), .int .i64 (c : Int)]) (.agg #[.int .i64 (nl : Int), .int .i64 (nr : Int)])).run Try.prog w = .ok (.bool (!decide (a = nl ∧ c = nr))) w := by
  have h := struct2_eql 150 (.inr rfl) (a : Int) (c : Int) (nl : Int) (nr : Int) w
  rw [run_eql_struct] at h
  rw [run_neq_struct]
  cases hr : (Op.equalIn 10000 150 (.agg #[.int .i64 (a : Int), .int .i64 (c : Int)]) (.agg #[.int .i64 (nl : Int), .int .i64 (nr : Int)])).run Try.prog w with
  | ok v w' =>
    rw [hr] at h
    simp only [Result.andThen, Result.ok.injEq, Value.bool.injEq] at h ⊢
    obtain ⟨rfl, rfl⟩ := h
    refine ⟨?_, rfl⟩
    congr 1
    simp only [decide_eq_decide]
    omega
  | halt x w' => rw [hr] at h; cases h

def row2 (v0 v1 : Value) : Nat → Value
  | 0 => v0 | _ => v1

def MatchOfPost (L R : List Sen) (nl cl nr cr : Nat) (la ra : Option Addr) (l : List (Int × Int)) (w : World) (e : Ending) (w' : World) : Prop :=
  Below w.heap.size w w' ∧ ((faultM L R ≠ 0 ∧ e = .returned (.tuple #[.agg #[.slice none 0 0, .int .u8 0, .int .i64 0, .slice none 0 0, .int .u8 0, .int .i64 0, .slice none 0 0, .slice none 0 0], .int .i64 (faultM L R)])) ∨
    (faultM L R = 0 ∧ matchM nl nr l = none ∧ e = .returned (.tuple #[.agg #[.slice none 0 0, .int .u8 0, .int .i64 0, .slice none 0 0, .int .u8 0, .int .i64 0, .slice none 0 0, .slice none 0 0], .int .i64 9])) ∨
    (faultM L R = 0 ∧ ∃ ms b b0 b2 ma mc, matchM nl nr l = some ms ∧ e = .returned (.tuple #[.agg #[.slice la nl cl, .int .u8 0, .int .i64 0, .slice ra nr cr, .int .u8 1, .int .i64 0, .slice (some ⟨b, 0, none⟩) 3 3, .slice ma ms.length mc], .int .i64 0]) ∧ ChargesAt w' b b0 b2 ∧ MovesAt w' ma la cl ra cr ms))

set_option maxRecDepth 100000 in
set_option maxHeartbeats 1000000 in
theorem matchOf_any (L R : List Sen) (nl cl nr cr : Nat) (la ra : Option Addr) (w : World) (hL : L.length = nl) (hR : R.length = nr) (sL : Small L) (sR : Small R) (hS : TextAt w la L) (hT : TextAt w ra R) (hcl : nl ≤ cl) (hcr : nr ≤ cr) (l : List (Int × Int)) (n sc : Nat) (sa : Option Addr) (hl : l.length = n) (hn : n ≤ 1000) (hP : PairsAt w sa l) :
    Calls Try.prog 58 #[.slice la nl cl, .slice ra nr cr, .slice sa n sc] w (MatchOfPost L R nl cl nr cr la ra l w) := by
  have hp := pairOf_any L R nl cl nr cr la ra (w.alloc (.cells #[.slice none 0 0, .int .u8 0, .int .i64 0, .slice none 0 0, .int .u8 0, .int .i64 0, .slice none 0 0, .slice none 0 0] 128)) hL hR sL sR (hS.grown (below_alloc _ _)) (hT.grown (below_alloc _ _))
  have hrow : (w.alloc (.cells #[.slice none 0 0, .int .u8 0, .int .i64 0, .slice none 0 0, .int .u8 0, .int .i64 0, .slice none 0 0, .slice none 0 0] 128)).rowIs w.heap.size 128 8 (row8 (.slice none 0 0) (.int .u8 0) (.int .i64 0) (.slice none 0 0) (.int .u8 0) (.int .i64 0) (.slice none 0 0) (.slice none 0 0)) := World.rowIs_alloc w _ 128 _ (fun i hi => by
    have h : i < 8 := hi
    iterate 8 (rcases i with _ | i; · rfl)
    omega)
  have hB0 := below_alloc w (.cells #[.slice none 0 0, .int .u8 0, .int .i64 0, .slice none 0 0, .int .u8 0, .int .i64 0, .slice none 0 0, .slice none 0 0] 128)
  obtain ⟨z, hz⟩ : ∃ z, faultM L R = z := ⟨_, rfl⟩
  have HZ := hid hz
  obtain ⟨i0, hi0, hz0, hz1, hz2⟩ := info_parts Try.info155
  have HL := hid hl
  clear hl
  by_cases h0 : z = 0
  · subst h0
    obtain ⟨l1, l2, v1, v2⟩ := fault_zero hz
    have fL := (fine_of L l1 v1).1
    have fR := (fine_of R l2 v2).1
    have hnl : nl ≤ 1000 := by rw [← hL]; exact fL.1
    have hnr : nr ≤ 1000 := by rw [← hR]; exact fR.1
    clear l1 l2 v1 v2 sL sR hS hT fL fR hL hR
    go_enter Try.func58, Try.ntmps58
    go_wp2_with (go_at_call 52; refine hp.mono ?_; clear hp; rintro e w1 ⟨hb1, ⟨hne, -⟩ | ⟨-, b, b0, b2, rfl, hch⟩⟩; (exact (hne hz).elim); clear hz; replace hrow := hrow.of_block (hb1.block _ hrow.lt); replace hB0 := below_then hB0 hb1)
    obtain ⟨pb, hpb⟩ : ∃ q, q = w1.heap.size := ⟨_, rfl⟩
    obtain ⟨W3, hW3⟩ : ∃ X, X = (w1.alloc (.cells #[.slice la nl cl, .int .u8 0, .int .i64 0, .slice ra nr cr, .int .u8 1, .int .i64 0, .slice (some ⟨b, 0, none⟩) 3 3] 119)).alloc (.cells #[.int .i64 0, .int .i64 0] 150) := ⟨_, rfl⟩
    have hB3 : Below w1.heap.size w1 W3 := by rw [hW3]; exact ((Below.refl _ w1).alloc (Nat.le_refl _) _).alloc (by simp) _
    have hBW : Below w.heap.size w W3 := hB0.trans (hB3.mono hB0.size)
    have s3 : W3.heap.size = pb + 2 := by rw [hW3, hpb]; simp
    have p0' : W3.cell? ⟨pb, 0, none⟩ = some (.slice la nl cl) := by rw [hW3, hpb]; simp [go_sem]
    have p1' : W3.cell? ⟨pb, 1, none⟩ = some (.int .u8 0) := by rw [hW3, hpb]; simp [go_sem]
    have p2' : W3.cell? ⟨pb, 2, none⟩ = some (.int .i64 0) := by rw [hW3, hpb]; simp [go_sem]
    have p3' : W3.cell? ⟨pb, 3, none⟩ = some (.slice ra nr cr) := by rw [hW3, hpb]; simp [go_sem]
    have p4' : W3.cell? ⟨pb, 4, none⟩ = some (.int .u8 1) := by rw [hW3, hpb]; simp [go_sem]
    have p5' : W3.cell? ⟨pb, 5, none⟩ = some (.int .i64 0) := by rw [hW3, hpb]; simp [go_sem]
    have p6' : W3.cell? ⟨pb, 6, none⟩ = some (.slice (some ⟨b, 0, none⟩) 3 3) := by rw [hW3, hpb]; simp [go_sem]
    have hab : W3.rowIs (pb + 1) 150 2 (row2 (.int .i64 ((0 : Nat) : Int)) (.int .i64 ((0 : Nat) : Int))) := by
      rw [hW3, hpb]
      have h := World.rowIs_alloc (w1.alloc (.cells #[.slice la nl cl, .int .u8 0, .int .i64 0, .slice ra nr cr, .int .u8 1, .int .i64 0, .slice (some ⟨b, 0, none⟩) 3 3] 119)) #[.int .i64 0, .int .i64 0] 150 (row2 (.int .i64 ((0 : Nat) : Int)) (.int .i64 ((0 : Nat) : Int))) (fun i hi => by
        have h : i < 2 := hi
        iterate 2 (rcases i with _ | i; · rfl)
        omega)
      simp only [World.size_alloc] at h
      exact h
    have hch3 := hch.grown hB3
    have hrow3 := hrow.of_block (hB3.block _ hrow.lt)
    have hrp : w.heap.size < pb := by rw [hpb]; exact hrow.lt
    have hcb : b < pb ∧ b0 < pb ∧ b2 < pb := by rw [hpb]; exact ⟨lt_of_cell hch.c0, lt_of_cell hch.z0, lt_of_cell hch.z2⟩
    rw [← hW3, ← hpb]
    have hz3 : pb + 2 ≤ W3.heap.size := by omega
    clear hW3 hpb s3 hrow hB0 hch hB3
    go_loopw [11, 28] (fun v j wr => ∃ (m : Nat) (ms : List (Nat × Nat × Nat × Nat)) (a c : Nat), m ≤ n ∧ j = .int .i64 m ∧ Hid (goM nl nr (l.take m) 0 0 = some (ms, a, c)) ∧ wr.ownsRow W3.heap.size 155 8 v ms.length (flatMV la cl ra cr ms) ∧
      wr.rowIs (pb + 1) 150 2 (row2 (.int .i64 (a : Int)) (.int .i64 (c : Int))) ∧ Hid (∀ j, j < W3.heap.size → j ≠ pb + 1 → wr.heap[j]? = W3.heap[j]?) ∧ Below w.heap.size w wr ∧ W3.heap.size ≤ wr.heap.size) (fun _ j _ => n - (intOf j).toNat)
    case atStart => exact ⟨0, [], 0, 0, Nat.zero_le _, rfl, hid rfl, World.ownsRow_nil _ _ _ _, hab, hid (fun _ _ _ => rfl), hBW, Nat.le_refl _⟩
    case round =>
      clear hab hBW
      obtain ⟨m, ms, a, c, hm, rfl, HG, hown, hab, HK, hB, hsz⟩ := hrel
      have hgl := goM_le (Nat.zero_le nl) (Nat.zero_le nr) HG.out
      obtain ⟨ga, gc, glen, gms⟩ := hgl
      have GMS := hid gms
      have glm : ms.length ≤ m := by rw [glen, List.length_take]; exact Nat.min_le_left _ _
      clear gms glen
      have kc : ∀ {bb o : Nat} {u : Value}, W3.cell? ⟨bb, o, none⟩ = some u → bb ≠ pb + 1 → wr.cell? ⟨bb, o, none⟩ = some u := fun h hne => (World.cell?_of_block (w := W3) (a := ⟨_, _, none⟩) (HK.out _ (lt_of_cell h) hne)).trans h
      have hrow4 := hrow3.of_block (HK.out _ hrow3.lt (by omega))
      have p0 := kc p0' (by omega)
      have p1 := kc p1' (by omega)
      have p2 := kc p2' (by omega)
      have p3 := kc p3' (by omega)
      have p4 := kc p4' (by omega)
      have p5 := kc p5' (by omega)
      have p6 := kc p6' (by omega)
      have hch4 : ChargesAt wr b b0 b2 := ⟨kc hch3.c0 (by omega), kc hch3.c1 (by omega), kc hch3.c2 (by omega), kc hch3.c3 (by omega), kc hch3.c4 (by omega), kc hch3.c5 (by omega), kc hch3.z0 (by omega), kc hch3.z2 (by omega)⟩
      clear kc
      have gp := lt_of_cell p0
      have a0 := hab.cell (i := 0) (by decide)
      have a1 := hab.cell (i := 1) (by decide)
      have gab := hab.lt
      simp only [row2] at a0 a1
      by_cases hlt : m < n
      · have hlt' : (m : Int) < n := by omega
        obtain ⟨bb, off, ea, e0, e1⟩ := (hP.grown hB) m (by rw [HL.out]; exact hlt)
        subst ea
        have ge := lt_of_cell e0
        obtain ⟨x, hx⟩ : ∃ x, l.getD m (0, 0) = x := ⟨_, rfl⟩
        have hst : l.take (m + 1) = l.take m ++ [x] := by
          rw [List.take_add_one, List.getElem?_eq_getElem (by rw [HL.out]; exact hlt), ← hx, List.getD_eq_getElem?_getD, List.getElem?_eq_getElem (by rw [HL.out]; exact hlt)]
          rfl
        have hgs := goM_snoc nl nr (l.take m) x 0 0
        rw [← hst, HG.out] at hgs
        simp only at hgs
        rw [hx] at e0 e1
        obtain ⟨x1, x2⟩ := x
        simp only at e0 e1 hgs
        have htk := fun W => take_any nl cl nr cr a c 3 3 la ra (some ⟨b, 0, none⟩) x1 x2 W hnl hnr hcl hcr (by omega) (by omega)
        cases ht : takeM nl nr a c x1 x2 with
        | none =>
          have htk' : ∀ W, Calls Try.prog 83 #[.agg #[.slice la nl cl, .int .u8 0, .int .i64 0, .slice ra nr cr, .int .u8 1, .int .i64 0, .slice (some ⟨b, 0, none⟩) 3 3], .agg #[.int .i64 (a : Int), .int .i64 (c : Int)], .agg #[.int .i64 x1, .int .i64 x2]] W fun e w' => e = .returned (.tuple #[.agg #[.int .i64 0, .int .i64 0, .slice none 0 0, .int .u8 0, .int .i64 0, .slice none 0 0, .int .u8 0, .int .i64 0], .bool false]) ∧ Below W.heap.size W w' := fun W => (htk W).mono fun e w' h => by
            obtain ⟨h1, h2⟩ := h
            rw [ht] at h2
            exact ⟨h2, h1⟩
          rw [ht] at hgs
          have hmm : matchM nl nr l = none := by
            have := goM_none nl nr (l.take (m + 1)) (l.drop (m + 1)) 0 0 hgs
            rw [List.take_append_drop] at this
            unfold matchM
            rw [this]
          have HMM := hid hmm
          clear htk ht hgs hmm hst hx
          go_wp2_with (go_at_call 83; refine (htk' _).mono ?_; rintro e w2 ⟨rfl, hb2⟩; replace hrow4 := hrow4.of_block ((below_then (below_alloc _ _) hb2).block _ hrow4.lt); replace hB := below_then hB (below_then (below_alloc _ _) hb2); have q0 := hrow4.cell (i := 0) (by decide); have f0 := hrow4.frozen 0; have q1 := hrow4.cell (i := 1) (by decide); have f1 := hrow4.frozen 1; have q2 := hrow4.cell (i := 2) (by decide); have f2 := hrow4.frozen 2; have q3 := hrow4.cell (i := 3) (by decide); have f3 := hrow4.frozen 3; have q4 := hrow4.cell (i := 4) (by decide); have f4 := hrow4.frozen 4; have q5 := hrow4.cell (i := 5) (by decide); have f5 := hrow4.frozen 5; have q6 := hrow4.cell (i := 6) (by decide); have f6 := hrow4.frozen 6; have q7 := hrow4.cell (i := 7) (by decide); have f7 := hrow4.frozen 7; have gl := hrow4.lt)
          have hbz := (set8_below (.slice none 0 0) (.int .u8 0) (.int .i64 0) (.slice none 0 0) (.int .u8 0) (.int .i64 0) (.slice none 0 0) (.slice none 0 0) hB (Nat.le_refl w.heap.size)).alloc (by have := (set8_below (.slice none 0 0) (.int .u8 0) (.int .i64 0) (.slice none 0 0) (.int .u8 0) (.int .i64 0) (.slice none 0 0) (.slice none 0 0) hB (Nat.le_refl w.heap.size)).size; exact this) (.cells #[.int .i64 0, .int .i64 0, .slice none 0 0, .int .u8 0, .int .i64 0, .slice none 0 0, .int .u8 0, .int .i64 0] 155)
          have row := (set8_row (.slice none 0 0) (.int .u8 0) (.int .i64 0) (.slice none 0 0) (.int .u8 0) (.int .i64 0) (.slice none 0 0) (.slice none 0 0) hrow4).alloc (.cells #[.int .i64 0, .int .i64 0, .slice none 0 0, .int .u8 0, .int .i64 0, .slice none 0 0, .int .u8 0, .int .i64 0] 155)
          show bodyPost Try.prog Try.f58 _ Exit.ret _ ((set8 w2 w.heap.size (.slice none 0 0) (.int .u8 0) (.int .i64 0) (.slice none 0 0) (.int .u8 0) (.int .i64 0) (.slice none 0 0) (.slice none 0 0)).alloc (.cells #[.int .i64 0, .int .i64 0, .slice none 0 0, .int .u8 0, .int .i64 0, .slice none 0 0, .int .u8 0, .int .i64 0] 155))
          generalize (set8 w2 w.heap.size (.slice none 0 0) (.int .u8 0) (.int .i64 0) (.slice none 0 0) (.int .u8 0) (.int .i64 0) (.slice none 0 0) (.slice none 0 0)).alloc (.cells #[.int .i64 0, .int .i64 0, .slice none 0 0, .int .u8 0, .int .i64 0, .slice none 0 0, .int .u8 0, .int .i64 0] 155) = WF at row hbz ⊢
          have z0 : WF.cell? ⟨w.heap.size, 0, none⟩ = some (.slice none 0 0) := row.cell (i := 0) (by decide)
          have z1 : WF.cell? ⟨w.heap.size, 1, none⟩ = some (.int .u8 0) := row.cell (i := 1) (by decide)
          have z2 : WF.cell? ⟨w.heap.size, 2, none⟩ = some (.int .i64 0) := row.cell (i := 2) (by decide)
          have z3 : WF.cell? ⟨w.heap.size, 3, none⟩ = some (.slice none 0 0) := row.cell (i := 3) (by decide)
          have z4 : WF.cell? ⟨w.heap.size, 4, none⟩ = some (.int .u8 0) := row.cell (i := 4) (by decide)
          have z5 : WF.cell? ⟨w.heap.size, 5, none⟩ = some (.int .i64 0) := row.cell (i := 5) (by decide)
          have z6 : WF.cell? ⟨w.heap.size, 6, none⟩ = some (.slice none 0 0) := row.cell (i := 6) (by decide)
          have z7 : WF.cell? ⟨w.heap.size, 7, none⟩ = some (.slice none 0 0) := row.cell (i := 7) (by decide)
          exact bodyPost_ret (v := .tuple #[.agg #[.slice none 0 0, .int .u8 0, .int .i64 0, .slice none 0 0, .int .u8 0, .int .i64 0, .slice none 0 0, .slice none 0 0], .int .i64 9]) (by simp [results, Try.f58, go_sem, z0, z1, z2, z3, z4, z5, z6, z7]) rfl ⟨hbz, .inr (.inl ⟨HZ.out, HMM.out, rfl⟩)⟩
        | some t =>
          obtain ⟨t1, t2⟩ := t
          have hmv := mem_moves (take_mem ht).1
          simp only at hmv
          obtain ⟨b1, b2', b3, b4, b5⟩ := hmv
          have htk' : ∀ W, Calls Try.prog 83 #[.agg #[.slice la nl cl, .int .u8 0, .int .i64 0, .slice ra nr cr, .int .u8 1, .int .i64 0, .slice (some ⟨b, 0, none⟩) 3 3], .agg #[.int .i64 (a : Int), .int .i64 (c : Int)], .agg #[.int .i64 x1, .int .i64 x2]] W fun e w' => e = .returned (.tuple #[.agg #[.int .i64 (t1 : Int), .int .i64 (t2 : Int), .slice (subA la cl a 2) t1 (cl - a), .int .u8 0, .int .i64 (a : Int), .slice (subA ra cr c 2) t2 (cr - c), .int .u8 1, .int .i64 (c : Int)], .bool true]) ∧ Below W.heap.size W w' := fun W => (htk W).mono fun e w' h => by
            obtain ⟨h1, h2⟩ := h
            rw [ht] at h2
            exact ⟨h2, h1⟩
          have hbeh := fun W => behind_any t1 t2 0 1 t1 (cl - a) a t2 (cr - c) c (subA la cl a 2) (subA ra cr c 2) W (by omega) (by omega) (by omega) (by omega)
          rw [ht] at hgs
          have HGS := hid hgs
          clear htk ht hgs hst hx
          obtain ⟨va, vc, rfl⟩ := owns_shape hown
          go_wp2_with (first | (go_at_call 83; refine (htk' _).mono ?_; clear htk'; rintro e w2 ⟨rfl, hb2⟩; have hbe2 := below_then (below_alloc wr (.cells #[.int .i64 x1, .int .i64 x2] 36)) hb2; have hown2 := book_owns hown (grown_none hbe2) (fun r e => by cases e); have hab2 := hab.of_block (hbe2.block _ hab.lt); have hs2 := hbe2.size; have h8 : ∀ j u, [.int .i64 (t1 : Int), .int .i64 (t2 : Int), .slice (subA la cl a 2) t1 (cl - a), .int .u8 0, .int .i64 (a : Int), .slice (subA ra cr c 2) t2 (cr - c), .int .u8 1, .int .i64 (c : Int)][j]? = some u → ((w2.alloc (.cells #[.int .i64 (t1 : Int), .int .i64 (t2 : Int), .slice (subA la cl a 2) t1 (cl - a), .int .u8 0, .int .i64 (a : Int), .slice (subA ra cr c 2) t2 (cr - c), .int .u8 1, .int .i64 (c : Int)] 155)).alloc (.cells #[.int .i64 (t1 : Int), .int .i64 (t2 : Int), .slice (subA la cl a 2) t1 (cl - a), .int .u8 0, .int .i64 (a : Int), .slice (subA ra cr c 2) t2 (cr - c), .int .u8 1, .int .i64 (c : Int)] 155)).cell? ((⟨w2.heap.size + 1, 0, none⟩ : Addr).add j) = some u := (by have := eight_new (w2.alloc (.cells #[.int .i64 (t1 : Int), .int .i64 (t2 : Int), .slice (subA la cl a 2) t1 (cl - a), .int .u8 0, .int .i64 (a : Int), .slice (subA ra cr c 2) t2 (cr - c), .int .u8 1, .int .i64 (c : Int)] 155)) (.int .i64 (t1 : Int)) (.int .i64 (t2 : Int)) (.slice (subA la cl a 2) t1 (cl - a)) (.int .u8 0) (.int .i64 (a : Int)) (.slice (subA ra cr c 2) t2 (cr - c)) (.int .u8 1) (.int .i64 (c : Int)) 155; rwa [World.size_alloc] at this)) | (at_builtin; refine wpList_append_own_at _ rfl _ _ 126 rfl W3.heap.size 155 i0 (.agg #[.int .i64 0, .int .i64 0, .slice none 0 0, .int .u8 0, .int .i64 0, .slice none 0 0, .int .u8 0, .int .i64 0]) 8 96 Try.underlying126 hi0 hz0 hz1 hz2 rfl (by decide) _ _ _ rfl ((hown2.alloc _).alloc _) ⟨w2.heap.size + 1, 0, none⟩ 1 1 [.int .i64 (t1 : Int), .int .i64 (t2 : Int), .slice (subA la cl a 2) t1 (cl - a), .int .u8 0, .int .i64 (a : Int), .slice (subA ra cr c 2) t2 (cr - c), .int .u8 1, .int .i64 (c : Int)] rfl rfl h8 (by simp [Value.oneCell']) (by unfold maxLen; omega) (by omega) (by simp; omega) ?_; intro v' w5 hown' hgrow hnil hloc; clear h8; have hb25 : Below W3.heap.size w2 w5 := ((((Below.refl W3.heap.size w2).alloc (by omega) _).alloc (by simp; omega) _).grown hgrow (by simp; omega) (fun r e => (hown2.lt r e).1)); have m0 : w5.cell? ⟨w2.heap.size, 0, none⟩ = some (.int .i64 (t1 : Int)) := (World.cell?_of_block (w := (w2.alloc (.cells #[.int .i64 (t1 : Int), .int .i64 (t2 : Int), .slice (subA la cl a 2) t1 (cl - a), .int .u8 0, .int .i64 (a : Int), .slice (subA ra cr c 2) t2 (cr - c), .int .u8 1, .int .i64 (c : Int)] 155)).alloc (.cells #[.int .i64 (t1 : Int), .int .i64 (t2 : Int), .slice (subA la cl a 2) t1 (cl - a), .int .u8 0, .int .i64 (a : Int), .slice (subA ra cr c 2) t2 (cr - c), .int .u8 1, .int .i64 (c : Int)] 155)) (a := ⟨w2.heap.size, 0, none⟩) (hgrow.block w2.heap.size (by simp; omega) (fun e => by have := (hown2.lt _ e.symm).2; omega))).trans (by simp [go_sem]); have m1 : w5.cell? ⟨w2.heap.size, 1, none⟩ = some (.int .i64 (t2 : Int)) := (World.cell?_of_block (w := (w2.alloc (.cells #[.int .i64 (t1 : Int), .int .i64 (t2 : Int), .slice (subA la cl a 2) t1 (cl - a), .int .u8 0, .int .i64 (a : Int), .slice (subA ra cr c 2) t2 (cr - c), .int .u8 1, .int .i64 (c : Int)] 155)).alloc (.cells #[.int .i64 (t1 : Int), .int .i64 (t2 : Int), .slice (subA la cl a 2) t1 (cl - a), .int .u8 0, .int .i64 (a : Int), .slice (subA ra cr c 2) t2 (cr - c), .int .u8 1, .int .i64 (c : Int)] 155)) (a := ⟨w2.heap.size, 1, none⟩) (hgrow.block w2.heap.size (by simp; omega) (fun e => by have := (hown2.lt _ e.symm).2; omega))).trans (by simp [go_sem]); have m2 : w5.cell? ⟨w2.heap.size, 2, none⟩ = some (.slice (subA la cl a 2) t1 (cl - a)) := (World.cell?_of_block (w := (w2.alloc (.cells #[.int .i64 (t1 : Int), .int .i64 (t2 : Int), .slice (subA la cl a 2) t1 (cl - a), .int .u8 0, .int .i64 (a : Int), .slice (subA ra cr c 2) t2 (cr - c), .int .u8 1, .int .i64 (c : Int)] 155)).alloc (.cells #[.int .i64 (t1 : Int), .int .i64 (t2 : Int), .slice (subA la cl a 2) t1 (cl - a), .int .u8 0, .int .i64 (a : Int), .slice (subA ra cr c 2) t2 (cr - c), .int .u8 1, .int .i64 (c : Int)] 155)) (a := ⟨w2.heap.size, 2, none⟩) (hgrow.block w2.heap.size (by simp; omega) (fun e => by have := (hown2.lt _ e.symm).2; omega))).trans (by simp [go_sem]); have m3 : w5.cell? ⟨w2.heap.size, 3, none⟩ = some (.int .u8 0) := (World.cell?_of_block (w := (w2.alloc (.cells #[.int .i64 (t1 : Int), .int .i64 (t2 : Int), .slice (subA la cl a 2) t1 (cl - a), .int .u8 0, .int .i64 (a : Int), .slice (subA ra cr c 2) t2 (cr - c), .int .u8 1, .int .i64 (c : Int)] 155)).alloc (.cells #[.int .i64 (t1 : Int), .int .i64 (t2 : Int), .slice (subA la cl a 2) t1 (cl - a), .int .u8 0, .int .i64 (a : Int), .slice (subA ra cr c 2) t2 (cr - c), .int .u8 1, .int .i64 (c : Int)] 155)) (a := ⟨w2.heap.size, 3, none⟩) (hgrow.block w2.heap.size (by simp; omega) (fun e => by have := (hown2.lt _ e.symm).2; omega))).trans (by simp [go_sem]); have m4 : w5.cell? ⟨w2.heap.size, 4, none⟩ = some (.int .i64 (a : Int)) := (World.cell?_of_block (w := (w2.alloc (.cells #[.int .i64 (t1 : Int), .int .i64 (t2 : Int), .slice (subA la cl a 2) t1 (cl - a), .int .u8 0, .int .i64 (a : Int), .slice (subA ra cr c 2) t2 (cr - c), .int .u8 1, .int .i64 (c : Int)] 155)).alloc (.cells #[.int .i64 (t1 : Int), .int .i64 (t2 : Int), .slice (subA la cl a 2) t1 (cl - a), .int .u8 0, .int .i64 (a : Int), .slice (subA ra cr c 2) t2 (cr - c), .int .u8 1, .int .i64 (c : Int)] 155)) (a := ⟨w2.heap.size, 4, none⟩) (hgrow.block w2.heap.size (by simp; omega) (fun e => by have := (hown2.lt _ e.symm).2; omega))).trans (by simp [go_sem]); have m5 : w5.cell? ⟨w2.heap.size, 5, none⟩ = some (.slice (subA ra cr c 2) t2 (cr - c)) := (World.cell?_of_block (w := (w2.alloc (.cells #[.int .i64 (t1 : Int), .int .i64 (t2 : Int), .slice (subA la cl a 2) t1 (cl - a), .int .u8 0, .int .i64 (a : Int), .slice (subA ra cr c 2) t2 (cr - c), .int .u8 1, .int .i64 (c : Int)] 155)).alloc (.cells #[.int .i64 (t1 : Int), .int .i64 (t2 : Int), .slice (subA la cl a 2) t1 (cl - a), .int .u8 0, .int .i64 (a : Int), .slice (subA ra cr c 2) t2 (cr - c), .int .u8 1, .int .i64 (c : Int)] 155)) (a := ⟨w2.heap.size, 5, none⟩) (hgrow.block w2.heap.size (by simp; omega) (fun e => by have := (hown2.lt _ e.symm).2; omega))).trans (by simp [go_sem]); have m6 : w5.cell? ⟨w2.heap.size, 6, none⟩ = some (.int .u8 1) := (World.cell?_of_block (w := (w2.alloc (.cells #[.int .i64 (t1 : Int), .int .i64 (t2 : Int), .slice (subA la cl a 2) t1 (cl - a), .int .u8 0, .int .i64 (a : Int), .slice (subA ra cr c 2) t2 (cr - c), .int .u8 1, .int .i64 (c : Int)] 155)).alloc (.cells #[.int .i64 (t1 : Int), .int .i64 (t2 : Int), .slice (subA la cl a 2) t1 (cl - a), .int .u8 0, .int .i64 (a : Int), .slice (subA ra cr c 2) t2 (cr - c), .int .u8 1, .int .i64 (c : Int)] 155)) (a := ⟨w2.heap.size, 6, none⟩) (hgrow.block w2.heap.size (by simp; omega) (fun e => by have := (hown2.lt _ e.symm).2; omega))).trans (by simp [go_sem]); have m7 : w5.cell? ⟨w2.heap.size, 7, none⟩ = some (.int .i64 (c : Int)) := (World.cell?_of_block (w := (w2.alloc (.cells #[.int .i64 (t1 : Int), .int .i64 (t2 : Int), .slice (subA la cl a 2) t1 (cl - a), .int .u8 0, .int .i64 (a : Int), .slice (subA ra cr c 2) t2 (cr - c), .int .u8 1, .int .i64 (c : Int)] 155)).alloc (.cells #[.int .i64 (t1 : Int), .int .i64 (t2 : Int), .slice (subA la cl a 2) t1 (cl - a), .int .u8 0, .int .i64 (a : Int), .slice (subA ra cr c 2) t2 (cr - c), .int .u8 1, .int .i64 (c : Int)] 155)) (a := ⟨w2.heap.size, 7, none⟩) (hgrow.block w2.heap.size (by simp; omega) (fun e => by have := (hown2.lt _ e.symm).2; omega))).trans (by simp [go_sem]); have hgm := lt_of_cell m0) | (go_at_call 82; refine (hbeh _).mono ?_; rintro e w6 ⟨rfl, hb6⟩; have hab6 := (hab2.of_block (hb25.block _ (by omega))).of_block (hb6.block _ (by have := hb25.size; have := hab2.lt; omega)); have q0 := hab6.cell (i := 0) (by decide); have q1 := hab6.cell (i := 1) (by decide); have f0 := hab6.frozen 0; have f1 := hab6.frozen 1; have gl := hab6.lt))
          have ho : w5.ownsRow W3.heap.size 155 8 v' (ms ++ [(a, c, t1, t2)]).length (flatMV la cl ra cr (ms ++ [(a, c, t1, t2)])) := by
            rw [flatMV_append, List.length_append]
            exact hown'
          have hb26 : Below W3.heap.size w2 w6 := hb25.trans (hb6.mono (by have := hb25.size; omega))
          go_roundw
          case rel =>
            refine ⟨m + 1, ms ++ [(a, c, t1, t2)], a + t1, c + t2, by omega, by go_num, HGS, ?_, ?_, hid (fun j hj hne => ?_), ?_, ?_⟩
            · exact ownsRow_setCell_below (ownsRow_setCell_below (book_owns ho (grown_none hb6) (fun r e => by cases e)) (show pb + 1 < W3.heap.size by omega) _) (show pb + 1 < W3.heap.size by omega) _
            · exact ((hab6.set 0 _).set 1 _).congr (fun i hi => by
                have h : i < 2 := hi
                iterate 2 (rcases i with _ | i; · first | rfl | simp [row2])
                omega)
            · rw [Below.heap_setCell _ _ _ _ hne, Below.heap_setCell _ _ _ _ hne]
              exact (hb26.block j hj).trans ((hbe2.block j (by omega)).trans (HK.out j hj hne))
            · exact (((below_then hB hbe2).trans (hb26.mono (by have := hB.size; omega))).setCell (p := ⟨pb + 1, 0, none⟩) (by simp; omega) _).setCell (p := ⟨pb + 1, 1, none⟩) (by simp; omega) _
            · simp
              have := hb26.size
              omega
          case measure => simp [intOf]; omega
      · have hmn : m = n := by omega
        subst hmn
        have hfin : goM nl nr l 0 0 = some (ms, a, c) := by
          have := HG.out
          rwa [← HL.out, List.take_length] at this
        have HF := hid hfin
        clear hfin
        obtain ⟨va, vc, rfl⟩ := owns_shape hown
        have hend := fun W => pend_any 0 1 nl cl 0 nr cr 0 la ra (some ⟨b, 0, none⟩) 3 3 W hnl hnr (by omega) (by omega)
        simp only [Nat.zero_add, Int.natCast_zero, Int.ofNat_zero, Int.cast_ofNat_Int] at hend
        have o0 : ∀ p : Over wr, p.w.cell? ⟨pb + 1, 0, none⟩ = some (.int .i64 (a : Int)) := fun p => p.cell a0
        have o1 : ∀ p : Over wr, p.w.cell? ⟨pb + 1, 1, none⟩ = some (.int .i64 (c : Int)) := fun p => p.cell a1
        have k0 : ∀ p : Over wr, p.w.cell? ⟨pb, 0, none⟩ = some (.slice la nl cl) := fun p => p.cell p0
        have k1 : ∀ p : Over wr, p.w.cell? ⟨pb, 1, none⟩ = some (.int .u8 0) := fun p => p.cell p1
        have k2 : ∀ p : Over wr, p.w.cell? ⟨pb, 2, none⟩ = some (.int .i64 0) := fun p => p.cell p2
        have k3 : ∀ p : Over wr, p.w.cell? ⟨pb, 3, none⟩ = some (.slice ra nr cr) := fun p => p.cell p3
        have k4 : ∀ p : Over wr, p.w.cell? ⟨pb, 4, none⟩ = some (.int .u8 1) := fun p => p.cell p4
        have k5 : ∀ p : Over wr, p.w.cell? ⟨pb, 5, none⟩ = some (.int .i64 0) := fun p => p.cell p5
        have k6 : ∀ p : Over wr, p.w.cell? ⟨pb, 6, none⟩ = some (.slice (some ⟨b, 0, none⟩) 3 3) := fun p => p.cell p6
        have hneq : ∀ W : World, (binOp .neq 150 (.agg #[.int .i64 (a : Int), .int .i64 (c : Int)]) (.agg #[.int .i64 (nl : Int), .int .i64 (nr : Int)])).run Try.prog W = .ok (.bool (!decide (a = nl ∧ c = nr))) W := fun W => place_neq a c nl nr W
        by_cases hac : a = nl ∧ c = nr
        · have hmm : matchM nl nr l = some ms := by unfold matchM; rw [HF.out]; simp [hac]
          have hd : decide (a = nl ∧ c = nr) = true := by simp [hac]
          rw [hd] at hneq
          have HMM := hid hmm
          clear hac hd hmm
          go_wp2_with fail
          refine wp_region_over wr (Below.refl _ _) (by kernel_rfl) (by kernel_rfl) ?_
          repeat (go_big_quiet_step (first | (go_at_call 84; exact Calls.over_of (hend _))))
          refine wpQuiet_nil ?_
          intro wz hw'
          have hbz := over_below hw'
          clear hw' o0 o1 k0 k1 k2 k3 k4 k5 k6 hneq hend
          replace p0 := cell_grown hbz p0
          replace p1 := cell_grown hbz p1
          replace p2 := cell_grown hbz p2
          replace p3 := cell_grown hbz p3
          replace p4 := cell_grown hbz p4
          replace p5 := cell_grown hbz p5
          replace p6 := cell_grown hbz p6
          have hrow5 := hrow4.of_block (hbz.block _ hrow4.lt)
          have hown5 := book_owns hown (grown_none hbz) (fun r e => by cases e)
          have hch5 := hch4.grown hbz
          have hB5 := below_then hB hbz
          have gz := lt_of_cell p0
          have q0 := hrow5.cell (i := 0) (by decide)
          have f0 := hrow5.frozen 0
          have q1 := hrow5.cell (i := 1) (by decide)
          have f1 := hrow5.frozen 1
          have q2 := hrow5.cell (i := 2) (by decide)
          have f2 := hrow5.frozen 2
          have q3 := hrow5.cell (i := 3) (by decide)
          have f3 := hrow5.frozen 3
          have q4 := hrow5.cell (i := 4) (by decide)
          have f4 := hrow5.frozen 4
          have q5 := hrow5.cell (i := 5) (by decide)
          have f5 := hrow5.frozen 5
          have q6 := hrow5.cell (i := 6) (by decide)
          have f6 := hrow5.frozen 6
          have q7 := hrow5.cell (i := 7) (by decide)
          have f7 := hrow5.frozen 7
          have gl := hrow5.lt
          go_wp2_with fail
          show bodyPost Try.prog Try.f58 _ Exit.ret _ (set8 wz w.heap.size (.slice la nl cl) (.int .u8 0) (.int .i64 0) (.slice ra nr cr) (.int .u8 1) (.int .i64 0) (.slice (some ⟨b, 0, none⟩) 3 3) (.slice va ms.length vc))
          have row := set8_row (.slice la nl cl) (.int .u8 0) (.int .i64 0) (.slice ra nr cr) (.int .u8 1) (.int .i64 0) (.slice (some ⟨b, 0, none⟩) 3 3) (.slice va ms.length vc) hrow5
          have hbF := set8_below (.slice la nl cl) (.int .u8 0) (.int .i64 0) (.slice ra nr cr) (.int .u8 1) (.int .i64 0) (.slice (some ⟨b, 0, none⟩) 3 3) (.slice va ms.length vc) hB5 (Nat.le_refl w.heap.size)
          have hmv := moves_of_owns (show (set8 wz w.heap.size (.slice la nl cl) (.int .u8 0) (.int .i64 0) (.slice ra nr cr) (.int .u8 1) (.int .i64 0) (.slice (some ⟨b, 0, none⟩) 3 3) (.slice va ms.length vc)).ownsRow W3.heap.size 155 8 (.slice va ms.length vc) ms.length (flatMV la cl ra cr ms) by
            unfold set8
            exact ownsRow_setCell_below (ownsRow_setCell_below (ownsRow_setCell_below (ownsRow_setCell_below (ownsRow_setCell_below (ownsRow_setCell_below (ownsRow_setCell_below (ownsRow_setCell_below hown5 (show w.heap.size < W3.heap.size by omega) _) (show w.heap.size < W3.heap.size by omega) _) (show w.heap.size < W3.heap.size by omega) _) (show w.heap.size < W3.heap.size by omega) _) (show w.heap.size < W3.heap.size by omega) _) (show w.heap.size < W3.heap.size by omega) _) (show w.heap.size < W3.heap.size by omega) _) (show w.heap.size < W3.heap.size by omega) _)
          have hcF : ChargesAt (set8 wz w.heap.size (.slice la nl cl) (.int .u8 0) (.int .i64 0) (.slice ra nr cr) (.int .u8 1) (.int .i64 0) (.slice (some ⟨b, 0, none⟩) 3 3) (.slice va ms.length vc)) b b0 b2 := by
            have n0 : b ≠ w.heap.size := fun e => by have := hch5.c0; rw [e, q0] at this; cases this
            have n1 : b0 ≠ w.heap.size := fun e => by have := hch5.z0; rw [e, q0] at this; cases this
            have n2 : b2 ≠ w.heap.size := fun e => by have := hch5.z2; rw [e, q0] at this; cases this
            exact ⟨set8_cell (.slice la nl cl) (.int .u8 0) (.int .i64 0) (.slice ra nr cr) (.int .u8 1) (.int .i64 0) (.slice (some ⟨b, 0, none⟩) 3 3) (.slice va ms.length vc) n0 hch5.c0, set8_cell (.slice la nl cl) (.int .u8 0) (.int .i64 0) (.slice ra nr cr) (.int .u8 1) (.int .i64 0) (.slice (some ⟨b, 0, none⟩) 3 3) (.slice va ms.length vc) n0 hch5.c1, set8_cell (.slice la nl cl) (.int .u8 0) (.int .i64 0) (.slice ra nr cr) (.int .u8 1) (.int .i64 0) (.slice (some ⟨b, 0, none⟩) 3 3) (.slice va ms.length vc) n0 hch5.c2, set8_cell (.slice la nl cl) (.int .u8 0) (.int .i64 0) (.slice ra nr cr) (.int .u8 1) (.int .i64 0) (.slice (some ⟨b, 0, none⟩) 3 3) (.slice va ms.length vc) n0 hch5.c3, set8_cell (.slice la nl cl) (.int .u8 0) (.int .i64 0) (.slice ra nr cr) (.int .u8 1) (.int .i64 0) (.slice (some ⟨b, 0, none⟩) 3 3) (.slice va ms.length vc) n0 hch5.c4, set8_cell (.slice la nl cl) (.int .u8 0) (.int .i64 0) (.slice ra nr cr) (.int .u8 1) (.int .i64 0) (.slice (some ⟨b, 0, none⟩) 3 3) (.slice va ms.length vc) n0 hch5.c5, set8_cell (.slice la nl cl) (.int .u8 0) (.int .i64 0) (.slice ra nr cr) (.int .u8 1) (.int .i64 0) (.slice (some ⟨b, 0, none⟩) 3 3) (.slice va ms.length vc) n1 hch5.z0, set8_cell (.slice la nl cl) (.int .u8 0) (.int .i64 0) (.slice ra nr cr) (.int .u8 1) (.int .i64 0) (.slice (some ⟨b, 0, none⟩) 3 3) (.slice va ms.length vc) n2 hch5.z2⟩
          generalize set8 wz w.heap.size (.slice la nl cl) (.int .u8 0) (.int .i64 0) (.slice ra nr cr) (.int .u8 1) (.int .i64 0) (.slice (some ⟨b, 0, none⟩) 3 3) (.slice va ms.length vc) = WF at row hbF hmv hcF ⊢
          have z0 : WF.cell? ⟨w.heap.size, 0, none⟩ = some (.slice la nl cl) := row.cell (i := 0) (by decide)
          have z1 : WF.cell? ⟨w.heap.size, 1, none⟩ = some (.int .u8 0) := row.cell (i := 1) (by decide)
          have z2 : WF.cell? ⟨w.heap.size, 2, none⟩ = some (.int .i64 0) := row.cell (i := 2) (by decide)
          have z3 : WF.cell? ⟨w.heap.size, 3, none⟩ = some (.slice ra nr cr) := row.cell (i := 3) (by decide)
          have z4 : WF.cell? ⟨w.heap.size, 4, none⟩ = some (.int .u8 1) := row.cell (i := 4) (by decide)
          have z5 : WF.cell? ⟨w.heap.size, 5, none⟩ = some (.int .i64 0) := row.cell (i := 5) (by decide)
          have z6 : WF.cell? ⟨w.heap.size, 6, none⟩ = some (.slice (some ⟨b, 0, none⟩) 3 3) := row.cell (i := 6) (by decide)
          have z7 : WF.cell? ⟨w.heap.size, 7, none⟩ = some (.slice va ms.length vc) := row.cell (i := 7) (by decide)
          exact bodyPost_ret (v := .tuple #[.agg #[.slice la nl cl, .int .u8 0, .int .i64 0, .slice ra nr cr, .int .u8 1, .int .i64 0, .slice (some ⟨b, 0, none⟩) 3 3, .slice va ms.length vc], .int .i64 0]) (by simp [results, Try.f58, go_sem, z0, z1, z2, z3, z4, z5, z6, z7]) rfl ⟨hbF, .inr (.inr ⟨HZ.out, ms, b, b0, b2, va, vc, HMM.out, rfl, hcF, hmv⟩)⟩
        · have hmm : matchM nl nr l = none := by unfold matchM; rw [HF.out]; simp [hac]
          have hd : decide (a = nl ∧ c = nr) = false := by simp [hac]
          rw [hd] at hneq
          have HMM := hid hmm
          clear hac hd hmm
          go_wp2_with fail
          refine wp_region_over wr (Below.refl _ _) (by kernel_rfl) (by kernel_rfl) ?_
          repeat (go_big_quiet_step (first | (go_at_call 84; exact Calls.over_of (hend _))))
          refine wpQuiet_nil ?_
          intro wz hw'
          have hbz := over_below hw'
          clear hw' o0 o1 k0 k1 k2 k3 k4 k5 k6 hneq hend
          have hrow5 := hrow4.of_block (hbz.block _ hrow4.lt)
          have hB5 := below_then hB hbz
          have q0 := hrow5.cell (i := 0) (by decide)
          have f0 := hrow5.frozen 0
          have q1 := hrow5.cell (i := 1) (by decide)
          have f1 := hrow5.frozen 1
          have q2 := hrow5.cell (i := 2) (by decide)
          have f2 := hrow5.frozen 2
          have q3 := hrow5.cell (i := 3) (by decide)
          have f3 := hrow5.frozen 3
          have q4 := hrow5.cell (i := 4) (by decide)
          have f4 := hrow5.frozen 4
          have q5 := hrow5.cell (i := 5) (by decide)
          have f5 := hrow5.frozen 5
          have q6 := hrow5.cell (i := 6) (by decide)
          have f6 := hrow5.frozen 6
          have q7 := hrow5.cell (i := 7) (by decide)
          have f7 := hrow5.frozen 7
          have gl := hrow5.lt
          go_wp2_with fail
          show bodyPost Try.prog Try.f58 _ Exit.ret _ (set8 wz w.heap.size (.slice none 0 0) (.int .u8 0) (.int .i64 0) (.slice none 0 0) (.int .u8 0) (.int .i64 0) (.slice none 0 0) (.slice none 0 0))
          have row := set8_row (.slice none 0 0) (.int .u8 0) (.int .i64 0) (.slice none 0 0) (.int .u8 0) (.int .i64 0) (.slice none 0 0) (.slice none 0 0) hrow5
          have hbF := set8_below (.slice none 0 0) (.int .u8 0) (.int .i64 0) (.slice none 0 0) (.int .u8 0) (.int .i64 0) (.slice none 0 0) (.slice none 0 0) hB5 (Nat.le_refl w.heap.size)
          generalize set8 wz w.heap.size (.slice none 0 0) (.int .u8 0) (.int .i64 0) (.slice none 0 0) (.int .u8 0) (.int .i64 0) (.slice none 0 0) (.slice none 0 0) = WF at row hbF ⊢
          have z0 : WF.cell? ⟨w.heap.size, 0, none⟩ = some (.slice none 0 0) := row.cell (i := 0) (by decide)
          have z1 : WF.cell? ⟨w.heap.size, 1, none⟩ = some (.int .u8 0) := row.cell (i := 1) (by decide)
          have z2 : WF.cell? ⟨w.heap.size, 2, none⟩ = some (.int .i64 0) := row.cell (i := 2) (by decide)
          have z3 : WF.cell? ⟨w.heap.size, 3, none⟩ = some (.slice none 0 0) := row.cell (i := 3) (by decide)
          have z4 : WF.cell? ⟨w.heap.size, 4, none⟩ = some (.int .u8 0) := row.cell (i := 4) (by decide)
          have z5 : WF.cell? ⟨w.heap.size, 5, none⟩ = some (.int .i64 0) := row.cell (i := 5) (by decide)
          have z6 : WF.cell? ⟨w.heap.size, 6, none⟩ = some (.slice none 0 0) := row.cell (i := 6) (by decide)
          have z7 : WF.cell? ⟨w.heap.size, 7, none⟩ = some (.slice none 0 0) := row.cell (i := 7) (by decide)
          exact bodyPost_ret (v := .tuple #[.agg #[.slice none 0 0, .int .u8 0, .int .i64 0, .slice none 0 0, .int .u8 0, .int .i64 0, .slice none 0 0, .slice none 0 0], .int .i64 9]) (by simp [results, Try.f58, go_sem, z0, z1, z2, z3, z4, z5, z6, z7]) rfl ⟨hbF, .inr (.inl ⟨HZ.out, HMM.out, rfl⟩)⟩
  · have h0' : ((z : Int) != 0) = true := by simp [h0]
    clear hL hR sL sR hS hT
    go_enter Try.func58, Try.ntmps58
    go_wp2_with (go_at_call 52; refine hp.mono ?_; clear hp; rintro e w1 ⟨hb1, ⟨-, rfl⟩ | ⟨hne, -⟩⟩; rotate_left 1; (exact (h0 (hz.symm.trans hne)).elim); rw [hz]; clear hz; replace hrow := hrow.of_block (hb1.block _ hrow.lt); replace hB0 := below_then hB0 hb1; have q0 := hrow.cell (i := 0) (by decide); have f0 := hrow.frozen 0; have q1 := hrow.cell (i := 1) (by decide); have f1 := hrow.frozen 1; have q2 := hrow.cell (i := 2) (by decide); have f2 := hrow.frozen 2; have q3 := hrow.cell (i := 3) (by decide); have f3 := hrow.frozen 3; have q4 := hrow.cell (i := 4) (by decide); have f4 := hrow.frozen 4; have q5 := hrow.cell (i := 5) (by decide); have f5 := hrow.frozen 5; have q6 := hrow.cell (i := 6) (by decide); have f6 := hrow.frozen 6; have q7 := hrow.cell (i := 7) (by decide); have f7 := hrow.frozen 7; have gl := hrow.lt)
    have hbz := (set8_below (.slice none 0 0) (.int .u8 0) (.int .i64 0) (.slice none 0 0) (.int .u8 0) (.int .i64 0) (.slice none 0 0) (.slice none 0 0) hB0 (Nat.le_refl w.heap.size)).alloc (by have := (set8_below (.slice none 0 0) (.int .u8 0) (.int .i64 0) (.slice none 0 0) (.int .u8 0) (.int .i64 0) (.slice none 0 0) (.slice none 0 0) hB0 (Nat.le_refl w.heap.size)).size; exact this) (.cells #[.slice none 0 0, .int .u8 0, .int .i64 0, .slice none 0 0, .int .u8 0, .int .i64 0, .slice none 0 0] 119)
    have row := (set8_row (.slice none 0 0) (.int .u8 0) (.int .i64 0) (.slice none 0 0) (.int .u8 0) (.int .i64 0) (.slice none 0 0) (.slice none 0 0) hrow).alloc (.cells #[.slice none 0 0, .int .u8 0, .int .i64 0, .slice none 0 0, .int .u8 0, .int .i64 0, .slice none 0 0] 119)
    show bodyPost Try.prog Try.f58 _ Exit.ret _ ((set8 w1 w.heap.size (.slice none 0 0) (.int .u8 0) (.int .i64 0) (.slice none 0 0) (.int .u8 0) (.int .i64 0) (.slice none 0 0) (.slice none 0 0)).alloc (.cells #[.slice none 0 0, .int .u8 0, .int .i64 0, .slice none 0 0, .int .u8 0, .int .i64 0, .slice none 0 0] 119))
    generalize (set8 w1 w.heap.size (.slice none 0 0) (.int .u8 0) (.int .i64 0) (.slice none 0 0) (.int .u8 0) (.int .i64 0) (.slice none 0 0) (.slice none 0 0)).alloc (.cells #[.slice none 0 0, .int .u8 0, .int .i64 0, .slice none 0 0, .int .u8 0, .int .i64 0, .slice none 0 0] 119) = WF at row hbz ⊢
    have z0 : WF.cell? ⟨w.heap.size, 0, none⟩ = some (.slice none 0 0) := row.cell (i := 0) (by decide)
    have z1 : WF.cell? ⟨w.heap.size, 1, none⟩ = some (.int .u8 0) := row.cell (i := 1) (by decide)
    have z2 : WF.cell? ⟨w.heap.size, 2, none⟩ = some (.int .i64 0) := row.cell (i := 2) (by decide)
    have z3 : WF.cell? ⟨w.heap.size, 3, none⟩ = some (.slice none 0 0) := row.cell (i := 3) (by decide)
    have z4 : WF.cell? ⟨w.heap.size, 4, none⟩ = some (.int .u8 0) := row.cell (i := 4) (by decide)
    have z5 : WF.cell? ⟨w.heap.size, 5, none⟩ = some (.int .i64 0) := row.cell (i := 5) (by decide)
    have z6 : WF.cell? ⟨w.heap.size, 6, none⟩ = some (.slice none 0 0) := row.cell (i := 6) (by decide)
    have z7 : WF.cell? ⟨w.heap.size, 7, none⟩ = some (.slice none 0 0) := row.cell (i := 7) (by decide)
    exact bodyPost_ret (v := .tuple #[.agg #[.slice none 0 0, .int .u8 0, .int .i64 0, .slice none 0 0, .int .u8 0, .int .i64 0, .slice none 0 0, .slice none 0 0], .int .i64 z]) (by simp [results, Try.f58, go_sem, z0, z1, z2, z3, z4, z5, z6, z7]) rfl ⟨hbz, .inl ⟨by rw [HZ.out]; exact h0, by rw [HZ.out]⟩⟩

end Go.Proofs.Ytohahlnhbppnhaa
