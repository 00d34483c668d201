/- Tongue: a match of two texts, step by step. -/
import Derived.Test.YtohahlnhbppnhaaT
namespace Go.Proofs.Ytohahlnhbppnhaa
open Go.RowKit
set_option linter.unusedSimpArgs false
set_option linter.unusedVariables false

/-- The steps as they are taken, with their places; and where they end. -/
def goM (nl nr : Nat) : List (Int × Int) → Nat → Nat → Option (List (Nat × Nat × Nat × Nat) × Nat × Nat)
  | [], i, k => some ([], i, k)
  | s :: l, i, k => match takeM nl nr i k s.1 s.2 with
    | none => none
    | some t => (goM nl nr l (i + t.1) (k + t.2)).map fun r => ((i, k, t.1, t.2) :: r.1, r.2)

theorem goM_snoc (nl nr : Nat) (l : List (Int × Int)) (s : Int × Int) : ∀ i k, goM nl nr (l ++ [s]) i k = match goM nl nr l i k with
    | none => none
    | some (ms, a, c) => match takeM nl nr a c s.1 s.2 with
      | none => none
      | some t => some (ms ++ [(a, c, t.1, t.2)], a + t.1, c + t.2) := by
  induction l with
  | nil =>
    intro i k
    simp only [List.nil_append, goM]
    cases takeM nl nr i k s.1 s.2 <;> rfl
  | cons x l ih =>
    intro i k
    simp only [List.cons_append, goM]
    cases hx : takeM nl nr i k x.1 x.2 with
    | none => rfl
    | some t =>
      simp only [ih]
      cases goM nl nr l (i + t.1) (k + t.2) with
      | none => rfl
      | some r =>
        obtain ⟨ms, a, c⟩ := r
        simp only [Option.map_some]
        cases takeM nl nr a c s.1 s.2 <;> rfl

theorem goM_none (nl nr : Nat) (l m : List (Int × Int)) : ∀ i k, goM nl nr l i k = none → goM nl nr (l ++ m) i k = none := by
  induction l with
  | nil => intro i k h; cases h
  | cons x l ih =>
    intro i k h
    simp only [List.cons_append, goM] at h ⊢
    cases hx : takeM nl nr i k x.1 x.2 with
    | none => rfl
    | some t =>
      rw [hx] at h
      simp only [Option.map_eq_none_iff] at h ⊢
      exact ih _ _ h

theorem take_mem {nl nr i k : Nat} {x y : Int} {t : Nat × Nat} (h : takeM nl nr i k x y = some t) : t ∈ movesM nl nr i k ∧ (t.1 : Int) = x ∧ (t.2 : Int) = y := by
  unfold takeM at h
  have h2 := List.find?_some h
  simp only [isStep, decide_eq_true_eq] at h2
  exact ⟨List.mem_of_find?_eq_some h, h2⟩

theorem goM_le {nl nr : Nat} {l : List (Int × Int)} : ∀ {i k a c : Nat} {ms : List (Nat × Nat × Nat × Nat)}, i ≤ nl → k ≤ nr → goM nl nr l i k = some (ms, a, c) → a ≤ nl ∧ c ≤ nr ∧ ms.length = l.length ∧
    ∀ m ∈ ms, m.1 + m.2.2.1 ≤ nl ∧ m.2.1 + m.2.2.2 ≤ nr ∧ m.2.2.1 ≤ 2 ∧ m.2.2.2 ≤ 2 ∧ 1 ≤ m.2.2.1 + m.2.2.2 := by
  induction l with
  | nil =>
    intro i k a c ms hi hk h
    simp only [goM, Option.some.injEq, Prod.mk.injEq] at h
    obtain ⟨rfl, rfl, rfl⟩ := h
    exact ⟨hi, hk, rfl, fun m hm => by cases hm⟩
  | cons x l ih =>
    intro i k a c ms hi hk h
    simp only [goM] at h
    cases hx : takeM nl nr i k x.1 x.2 with
    | none => rw [hx] at h; cases h
    | some t =>
      rw [hx] at h
      simp only at h
      have hm := mem_moves (take_mem hx).1
      cases hg : goM nl nr l (i + t.1) (k + t.2) with
      | none => rw [hg] at h; cases h
      | some r =>
        rw [hg] at h
        obtain ⟨ms', a', c'⟩ := r
        simp only [Option.map_some, Option.some.injEq, Prod.mk.injEq] at h
        obtain ⟨rfl, rfl, rfl⟩ := h
        obtain ⟨g1, g2, g3, g4⟩ := ih (by omega) (by omega) hg
        refine ⟨g1, g2, by simp [g3], fun m hm' => ?_⟩
        rcases List.mem_cons.1 hm' with rfl | hm'
        · simp only; omega
        · exact g4 m hm'

/-- The steps, if they are a match. -/
def matchM (nl nr : Nat) (l : List (Int × Int)) : Option (List (Nat × Nat × Nat × Nat)) := match goM nl nr l 0 0 with
  | none => none
  | some (ms, a, c) => if a = nl ∧ c = nr then some ms else none

/-- Steps that are taken, as cells. -/
def flatMV (la : Option Addr) (cl : Nat) (ra : Option Addr) (cr : Nat) : List (Nat × Nat × Nat × Nat) → List Value
  | [] => []
  | m :: l => .int .i64 (m.2.2.1 : Int) :: .int .i64 (m.2.2.2 : Int) :: .slice (subA la cl m.1 2) m.2.2.1 (cl - m.1) :: .int .u8 0 :: .int .i64 (m.1 : Int) :: .slice (subA ra cr m.2.1 2) m.2.2.2 (cr - m.2.1) :: .int .u8 1 :: .int .i64 (m.2.1 : Int) :: flatMV la cl ra cr l

theorem flatMV_append (la : Option Addr) (cl : Nat) (ra : Option Addr) (cr : Nat) (l m : List (Nat × Nat × Nat × Nat)) : flatMV la cl ra cr (l ++ m) = flatMV la cl ra cr l ++ flatMV la cl ra cr m := by
  induction l with
  | nil => rfl
  | cons x l ih => simp [flatMV, ih]

theorem flatMV_get (la : Option Addr) (cl : Nat) (ra : Option Addr) (cr : Nat) (l : List (Nat × Nat × Nat × Nat)) : ∀ j, j < l.length → ∀ m, l.getD j default = m →
    (flatMV la cl ra cr l)[j * 8]? = some (.int .i64 (m.2.2.1 : Int)) ∧ (flatMV la cl ra cr l)[j * 8 + 1]? = some (.int .i64 (m.2.2.2 : Int)) ∧ (flatMV la cl ra cr l)[j * 8 + 2]? = some (.slice (subA la cl m.1 2) m.2.2.1 (cl - m.1)) ∧ (flatMV la cl ra cr l)[j * 8 + 3]? = some (.int .u8 0) ∧ (flatMV la cl ra cr l)[j * 8 + 4]? = some (.int .i64 (m.1 : Int)) ∧ (flatMV la cl ra cr l)[j * 8 + 5]? = some (.slice (subA ra cr m.2.1 2) m.2.2.2 (cr - m.2.1)) ∧ (flatMV la cl ra cr l)[j * 8 + 6]? = some (.int .u8 1) ∧ (flatMV la cl ra cr l)[j * 8 + 7]? = some (.int .i64 (m.2.1 : Int)) := by
  induction l with
  | nil => intro j h; simp at h
  | cons x l ih =>
    intro j h m hm
    cases j with
    | zero => simp at hm; subst hm; simp [flatMV]
    | succ j =>
      have := ih j (by simpa using h) m (by simpa using hm)
      rw [show (j + 1) * 8 = j * 8 + 8 from by omega]
      simpa [flatMV] using this

/-- Steps that are taken, as they lie in memory. -/
def MovesAt (w : World) (a la : Option Addr) (cl : Nat) (ra : Option Addr) (cr : Nat) (l : List (Nat × Nat × Nat × Nat)) : Prop :=
  ∀ j, j < l.length → ∃ b off, a = some ⟨b, off, none⟩ ∧ ∀ m, l.getD j default = m → w.cell? ⟨b, off + j * 8, none⟩ = some (.int .i64 (m.2.2.1 : Int)) ∧ w.cell? ⟨b, off + j * 8 + 1, none⟩ = some (.int .i64 (m.2.2.2 : Int)) ∧ w.cell? ⟨b, off + j * 8 + 2, none⟩ = some (.slice (subA la cl m.1 2) m.2.2.1 (cl - m.1)) ∧ w.cell? ⟨b, off + j * 8 + 3, none⟩ = some (.int .u8 0) ∧ w.cell? ⟨b, off + j * 8 + 4, none⟩ = some (.int .i64 (m.1 : Int)) ∧ w.cell? ⟨b, off + j * 8 + 5, none⟩ = some (.slice (subA ra cr m.2.1 2) m.2.2.2 (cr - m.2.1)) ∧ w.cell? ⟨b, off + j * 8 + 6, none⟩ = some (.int .u8 1) ∧ w.cell? ⟨b, off + j * 8 + 7, none⟩ = some (.int .i64 (m.2.1 : Int))

theorem MovesAt.grown {w w' : World} {a la : Option Addr} {cl : Nat} {ra : Option Addr} {cr : Nat} {l : List (Nat × Nat × Nat × Nat)} (h : MovesAt w a la cl ra cr l) (hb : Below w.heap.size w w') : MovesAt w' a la cl ra cr l := fun j hj => by
  obtain ⟨b, off, ha, h1⟩ := h j hj
  refine ⟨b, off, ha, fun m hm => ?_⟩
  obtain ⟨c0, c1, c2, c3, c4, c5, c6, c7⟩ := h1 m hm
  exact ⟨cell_grown hb c0, cell_grown hb c1, cell_grown hb c2, cell_grown hb c3, cell_grown hb c4, cell_grown hb c5, cell_grown hb c6, cell_grown hb c7⟩

theorem moves_of_owns {W : World} {base : Nat} {e : TypeId} {a la : Option Addr} {cl : Nat} {ra : Option Addr} {cr cap : Nat} {T : List (Nat × Nat × Nat × Nat)} (h : W.ownsRow base e 8 (.slice a T.length cap) T.length (flatMV la cl ra cr T)) : MovesAt W a la cl ra cr T := by
  intro i hi
  rcases h.2 with ⟨_, h0⟩ | ⟨g, cap', cur, hv, _, hg, _⟩
  · omega
  · simp only [Value.slice.injEq] at hv
    obtain ⟨rfl, -, -⟩ := hv
    have hc := h.cells (g := g) rfl
    have hadd : ∀ j, (⟨g, 0, none⟩ : Addr).add j = ⟨g, 0 + j, none⟩ := fun j => by unfold Addr.add; split <;> simp_all
    refine ⟨g, 0, rfl, fun m hm => ?_⟩
    obtain ⟨e0, e1, e2, e3, e4, e5, e6, e7⟩ := flatMV_get la cl ra cr T i hi m hm
    have c0 := hc _ _ e0
    have c1 := hc _ _ e1
    have c2 := hc _ _ e2
    have c3 := hc _ _ e3
    have c4 := hc _ _ e4
    have c5 := hc _ _ e5
    have c6 := hc _ _ e6
    have c7 := hc _ _ e7
    rw [hadd] at c0 c1 c2 c3 c4 c5 c6 c7
    exact ⟨c0, by rw [Nat.add_assoc]; exact c1, by rw [Nat.add_assoc]; exact c2, by rw [Nat.add_assoc]; exact c3, by rw [Nat.add_assoc]; exact c4, by rw [Nat.add_assoc]; exact c5, by rw [Nat.add_assoc]; exact c6, by rw [Nat.add_assoc]; exact c7⟩

/-- Whole numbers two by two, as they lie in memory. -/
def PairsAt (w : World) (a : Option Addr) (l : List (Int × Int)) : Prop :=
  ∀ i, i < l.length → ∃ b off, a = some ⟨b, off, none⟩ ∧ w.cell? ⟨b, off + i * 2, none⟩ = some (.int .i64 (l.getD i (0, 0)).1) ∧ w.cell? ⟨b, off + i * 2 + 1, none⟩ = some (.int .i64 (l.getD i (0, 0)).2)

theorem PairsAt.grown {w w' : World} {a : Option Addr} {l : List (Int × Int)} (h : PairsAt w a l) (hb : Below w.heap.size w w') : PairsAt w' a l := fun i hi =>
  let ⟨b, off, ha, h1, h2⟩ := h i hi
  ⟨b, off, ha, cell_grown hb h1, cell_grown hb h2⟩

end Go.Proofs.Ytohahlnhbppnhaa
