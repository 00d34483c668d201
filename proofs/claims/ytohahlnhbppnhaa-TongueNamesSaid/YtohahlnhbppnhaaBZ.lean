/- Tongue: tables in memory of the call's own: rows of numbers. -/
import Derived.Test.YtohahlnhbppnhaaAY
import Derived.Test.YtohahlnhbppnhaaAJ
namespace Go.Proofs.Ytohahlnhbppnhaa
open Go.RowKit
set_option linter.unusedSimpArgs false
set_option linter.unusedVariables false

theorem grownBy_setCell (w : World) (b o : Nat) (v : Value) : w.grownBy (w.setCell ⟨b, o, none⟩ v) (some b) :=
  ⟨rfl, rfl, rfl, by simp, fun k _ hk => by
    have hne : b ≠ k := fun e => hk (by rw [e])
    simp [World.setCell, Array.getElem?_modify, hne]⟩

/-- A table of n rows of m numbers, whose blocks are the call's own, each another one. -/
structure GridG (W : World) (B : Nat) (v : Value) (n m : Nat) (F : Nat → Nat → Int) (g : Nat → Nat) : Prop where
  own : W.ownsRow B 41 1 v n ((List.range n).map fun j => .slice (some ⟨g j, 0, none⟩) m m)
  low : ∀ j, j < n → B ≤ g j
  apart : ∀ j, j < n → v.ownBlock ≠ some (g j)
  row : ∀ j, j < n → W.rowIs (g j) 3 m (fun q => .int .i64 (F j q))
  inj : ∀ i j, i < n → j < n → g i = g j → i = j

def GridO (W : World) (B : Nat) (v : Value) (n m : Nat) (F : Nat → Nat → Int) : Prop := ∃ g, GridG W B v n m F g

theorem GridG.nil (W : World) (B m : Nat) (F : Nat → Nat → Int) (g : Nat → Nat) : GridG W B (.slice none 0 0) 0 m F g :=
  ⟨World.ownsRow_nil _ _ _ _, fun j h => by omega, fun j h => by omega, fun j h => by omega, fun i j h => by omega⟩

theorem GridG.shape {W : World} {B n m : Nat} {v : Value} {F : Nat → Nat → Int} {g : Nat → Nat} (h : GridG W B v n m F g) : ∃ a c, v = .slice a n c := owns_shape h.own

theorem GridG.grown {W W' : World} {B n m : Nat} {v : Value} {F : Nat → Nat → Int} {g : Nat → Nat} (h : GridG W B v n m F g) (hb : Below W.heap.size W W') : GridG W' B v n m F g :=
  ⟨book_owns h.own (grown_none hb) (fun r e => by cases e), h.low, h.apart, fun j hj => (h.row j hj).of_block (hb.block _ (h.row j hj).lt), h.inj⟩

theorem GridG.lt {W : World} {B n m : Nat} {v : Value} {F : Nat → Nat → Int} {g : Nat → Nat} (h : GridG W B v n m F g) {j : Nat} (hj : j < n) : g j < W.heap.size := (h.row j hj).lt

theorem GridG.congr {W : World} {B n m : Nat} {v : Value} {F G : Nat → Nat → Int} {g : Nat → Nat} (h : GridG W B v n m F g) (e : ∀ j q, j < n → q < m → F j q = G j q) : GridG W B v n m G g :=
  ⟨h.own, h.low, h.apart, fun j hj => (h.row j hj).congr (fun q hq => by rw [e j q hj hq]), h.inj⟩

/-- The cell of a row, and the one of a number. -/
theorem GridG.read {W : World} {B n m : Nat} {a : Option Addr} {c : Nat} {F : Nat → Nat → Int} {g : Nat → Nat} (h : GridG W B (.slice a n c) n m F g) {i : Nat} (hi : i < n) :
    ∃ b, a = some ⟨b, 0, none⟩ ∧ W.cell? ⟨b, i, none⟩ = some (.slice (some ⟨g i, 0, none⟩) m m) ∧ ∀ q, q < m → W.cell? ⟨g i, q, none⟩ = some (.int .i64 (F i q)) := by
  rcases h.own.2 with ⟨hv, h0⟩ | ⟨b, cap', cur, hv, _⟩
  · omega
  · simp only [Value.slice.injEq] at hv
    obtain ⟨rfl, -, rfl⟩ := hv
    have c0 := h.own.cells (g := b) rfl i (.slice (some ⟨g i, 0, none⟩) m m) (by rw [List.getElem?_map, List.getElem?_range hi]; rfl)
    rw [add_plain, Nat.zero_add] at c0
    exact ⟨b, rfl, c0, fun q hq => (h.row i hi).cell hq⟩

theorem GridG.push {W w5 : World} {B n m G : Nat} {v v' : Value} {F : Nat → Nat → Int} {g : Nat → Nat} (h : GridG W B v n m F g) (hG : B ≤ G) (hrow : W.rowIs G 3 m (fun _ => .int .i64 0)) (hne : ∀ j, j < n → g j ≠ G) (hv : v.ownBlock ≠ some G)
    (hown : w5.ownsRow B 41 1 v' (n + 1) (((List.range n).map fun j => .slice (some ⟨g j, 0, none⟩) m m) ++ [.slice (some ⟨G, 0, none⟩) m m])) (hgrow : W.grownBy w5 v.ownBlock) (hloc : v'.ownBlock = v.ownBlock ∨ v'.ownBlock = some W.heap.size) :
    GridG w5 B v' (n + 1) m (fun j q => if j = n then 0 else F j q) (fun j => if j = n then G else g j) := by
  have hblk : ∀ j, j < n + 1 → (if j = n then G else g j) < W.heap.size ∧ v.ownBlock ≠ some (if j = n then G else g j) := fun j hj => by
    by_cases e : j = n
    · rw [if_pos e]; exact ⟨hrow.lt, hv⟩
    · rw [if_neg e]; exact ⟨(h.row j (by omega)).lt, h.apart j (by omega)⟩
  refine ⟨?_, fun j hj => ?_, fun j hj => ?_, fun j hj => ?_, fun i j hi hj e => ?_⟩
  · have e : ((List.range (n + 1)).map fun j => Value.slice (some ⟨if j = n then G else g j, 0, none⟩) m m) = ((List.range n).map fun j => Value.slice (some ⟨g j, 0, none⟩) m m) ++ [.slice (some ⟨G, 0, none⟩) m m] := by
      rw [List.range_succ, List.map_append]
      congr 1
      · refine List.map_congr_left fun j hj => ?_
        have := List.mem_range.1 hj
        rw [if_neg (by omega)]
      · simp
    rw [e]
    exact hown
  · by_cases e : j = n
    · simp only [if_pos e]; exact hG
    · simp only [if_neg e]; exact h.low j (by omega)
  · obtain ⟨h1, h2⟩ := hblk j hj
    rcases hloc with e | e
    · rw [e]; exact h2
    · rw [e]; intro e2; simp only [Option.some.injEq] at e2; omega
  · obtain ⟨h1, h2⟩ := hblk j hj
    have hb := hgrow.block _ h1 (fun e => h2 e.symm)
    by_cases e : j = n
    · simp only [if_pos e] at hb ⊢
      exact hrow.of_block hb
    · simp only [if_neg e] at hb ⊢
      exact (h.row j (by omega)).of_block hb
  · by_cases e1 : i = n <;> by_cases e2 : j = n
    · omega
    · simp only [if_pos e1, if_neg e2] at e
      exact absurd e.symm (hne j (by omega))
    · simp only [if_neg e1, if_pos e2] at e
      exact absurd e (hne i (by omega))
    · simp only [if_neg e1, if_neg e2] at e
      exact h.inj i j (by omega) (by omega) e

theorem GridG.put {W : World} {B n m : Nat} {v : Value} {F : Nat → Nat → Int} {g : Nat → Nat} (h : GridG W B v n m F g) {i : Nat} (hi : i < n) (q : Nat) (z : Int) :
    GridG (W.setCell ⟨g i, q, none⟩ (.int .i64 z)) B v n m (fun j p => if j = i ∧ p = q then z else F j p) g := by
  refine ⟨h.own.kept (grownBy_setCell W (g i) q _) (.inr (h.apart i hi)), h.low, h.apart, fun j hj => ?_, h.inj⟩
  by_cases e : j = i
  · subst e
    refine ((h.row j hj).set q (.int .i64 z)).congr (fun p hp => ?_)
    by_cases e2 : p = q <;> simp [e2]
  · refine ((h.row j hj).setOther (a := ⟨g i, q, none⟩) (fun e2 => e (h.inj j i hj hi e2)) (.int .i64 z)).congr (fun p hp => ?_)
    simp [e]

/-- A table, as it lies in memory. -/
def GridAt (w : World) (a : Option Addr) (T : List (List Int)) : Prop :=
  ∀ i, i < T.length → ∃ b off ra rc, a = some ⟨b, off, none⟩ ∧ w.cell? ⟨b, off + i, none⟩ = some (.slice ra (T.getD i []).length rc) ∧ IntsAt w ra (T.getD i [])

theorem GridAt.grown {w w' : World} {a : Option Addr} {T : List (List Int)} (h : GridAt w a T) (hb : Below w.heap.size w w') : GridAt w' a T := fun i hi => by
  obtain ⟨b, off, ra, rc, e, c, hI⟩ := h i hi
  exact ⟨b, off, ra, rc, e, cell_grown hb c, hI.grown hb⟩

def gridL (n m : Nat) (F : Nat → Nat → Int) : List (List Int) := (List.range n).map fun i => (List.range m).map (F i)

theorem gridL_length (n m : Nat) (F : Nat → Nat → Int) : (gridL n m F).length = n := by simp [gridL]

theorem gridL_row (n m : Nat) (F : Nat → Nat → Int) (i : Nat) (hi : i < n) : (gridL n m F).getD i [] = (List.range m).map (F i) := by
  unfold gridL
  rw [List.getD_eq_getElem?_getD, List.getElem?_map, List.getElem?_range hi]
  rfl

theorem gridL_at (n m : Nat) (F : Nat → Nat → Int) (i q : Nat) (hi : i < n) (hq : q < m) : ((gridL n m F).getD i []).getD q 0 = F i q := by
  rw [gridL_row n m F i hi, List.getD_eq_getElem?_getD, List.getElem?_map, List.getElem?_range hq]
  rfl

theorem GridG.at {W : World} {B n m : Nat} {a : Option Addr} {c : Nat} {F : Nat → Nat → Int} {g : Nat → Nat} (h : GridG W B (.slice a n c) n m F g) : GridAt W a (gridL n m F) := by
  intro i hi
  rw [gridL_length] at hi
  obtain ⟨b, ea, c0, c1⟩ := h.read hi
  refine ⟨b, 0, some ⟨g i, 0, none⟩, m, ea, ?_, ?_⟩
  · rw [Nat.zero_add, gridL_row n m F i hi, c0]
    simp
  · rw [gridL_row n m F i hi]
    intro q hq
    have hq' : q < m := by simpa using hq
    refine ⟨g i, 0, rfl, ?_⟩
    rw [Nat.zero_add, c1 q hq']
    simp [List.getElem?_range hq']

end Go.Proofs.Ytohahlnhbppnhaa
