/- Mend: how texts, and lists of them, lie in memory; the small functions of numbers. -/
import Derived.Test.YtbampfkmgjfofaaGreatDoorRows
import Derived.WalkKit
import Derived.WalkSpells
import Derived.WalkLawsBesides
import Derived.Lib.Hide
namespace Go.Proofs.YtbampfkmgjfofaaGreatDoor
open Go.RowKit

theorem hid {p : Prop} (h : p) : Hid p := h

theorem lt_of_cell {w : World} {b o : Nat} {v : Value} (h : w.cell? ⟨b, o, none⟩ = some v) : b < w.heap.size := World.block_lt_of_cell? w _ h

theorem cell_below {B : Nat} {w w' : World} (h : Below B w w') {b o : Nat} {v : Value} (hb : b < B) (hc : w.cell? ⟨b, o, none⟩ = some v) : w'.cell? ⟨b, o, none⟩ = some v :=
  (h.cell (p := ⟨b, o, none⟩) hb).trans hc

theorem cell_grown {w w' : World} (h : Below w.heap.size w w') {b o : Nat} {v : Value} (hc : w.cell? ⟨b, o, none⟩ = some v) : w'.cell? ⟨b, o, none⟩ = some v :=
  cell_below h (lt_of_cell hc) hc

theorem below_alloc (w : World) (o : Obj) : Below w.heap.size w (w.alloc o) := (Below.refl _ w).alloc (Nat.le_refl _) o

theorem below_then {w w' w'' : World} (h : Below w.heap.size w w') (h' : Below w'.heap.size w' w'') : Below w.heap.size w w'' := h.trans (h'.mono h.size)

/-- A text: its bytes. -/
abbrev Tx := ByteArray

theorem tx_beq (s t : Tx) : (s.toList == t.toList) = decide (s = t) := by
  rw [ByteArray.toList_eq, ByteArray.toList_eq, Bool.eq_iff_iff, beq_iff_eq, decide_eq_true_eq]
  constructor
  · intro h
    cases s; cases t
    rw [ByteArray.mk.injEq]
    exact Array.ext' h
  · intro h
    rw [h]

theorem tx_same {s t : Tx} (h : s = t) : (s.toList == t.toList) = true := by rw [tx_beq]; simpa using h
theorem tx_diff {s t : Tx} (h : ¬ s = t) : (s.toList == t.toList) = false := by rw [tx_beq]; simpa using h

/-- A list of texts, as it lies in memory. -/
def Strs (w : World) (a : Option Addr) (L : List Tx) : Prop :=
  ∀ i, i < L.length → ∃ b off, a = some ⟨b, off, none⟩ ∧ w.cell? ⟨b, off + i, none⟩ = some (.string (L.getD i .empty))

theorem Strs.grown {w w' : World} {a : Option Addr} {L : List Tx} (h : Strs w a L) (hb : Below w.heap.size w w') : Strs w' a L := fun i hi =>
  let ⟨b, off, ha, h1⟩ := h i hi
  ⟨b, off, ha, cell_grown hb h1⟩

/-- A list of pairs of a text and a number. -/
def Nums (w : World) (a : Option Addr) (L : List (Tx × Int)) : Prop :=
  ∀ i, i < L.length → ∃ b off, a = some ⟨b, off, none⟩ ∧ w.cell? ⟨b, off + i * 2, none⟩ = some (.string (L.getD i (.empty, 0)).1) ∧ w.cell? ⟨b, off + i * 2 + 1, none⟩ = some (.int .i64 (L.getD i (.empty, 0)).2)

theorem Nums.grown {w w' : World} {a : Option Addr} {L : List (Tx × Int)} (h : Nums w a L) (hb : Below w.heap.size w w') : Nums w' a L := fun i hi =>
  let ⟨b, off, ha, h1, h2⟩ := h i hi
  ⟨b, off, ha, cell_grown hb h1, cell_grown hb h2⟩

/-- A list of marks: kind and value. -/
def Marks (w : World) (a : Option Addr) (L : List (Int × Int)) : Prop :=
  ∀ i, i < L.length → ∃ b off, a = some ⟨b, off, none⟩ ∧ w.cell? ⟨b, off + i * 2, none⟩ = some (.int .u8 (L.getD i (0, 0)).1) ∧ w.cell? ⟨b, off + i * 2 + 1, none⟩ = some (.int .i64 (L.getD i (0, 0)).2)

theorem Marks.grown {w w' : World} {a : Option Addr} {L : List (Int × Int)} (h : Marks w a L) (hb : Below w.heap.size w w') : Marks w' a L := fun i hi =>
  let ⟨b, off, ha, h1, h2⟩ := h i hi
  ⟨b, off, ha, cell_grown hb h1, cell_grown hb h2⟩

/-- A list of swaps: kind, old and new. -/
def SwapsAt (w : World) (a : Option Addr) (L : List (Int × Int × Int)) : Prop :=
  ∀ i, i < L.length → ∃ b off, a = some ⟨b, off, none⟩ ∧ w.cell? ⟨b, off + i * 3, none⟩ = some (.int .u8 (L.getD i (0, 0, 0)).1) ∧ w.cell? ⟨b, off + i * 3 + 1, none⟩ = some (.int .i64 (L.getD i (0, 0, 0)).2.1) ∧ w.cell? ⟨b, off + i * 3 + 2, none⟩ = some (.int .i64 (L.getD i (0, 0, 0)).2.2)

theorem SwapsAt.grown {w w' : World} {a : Option Addr} {L : List (Int × Int × Int)} (h : SwapsAt w a L) (hb : Below w.heap.size w w') : SwapsAt w' a L := fun i hi =>
  let ⟨b, off, ha, h1, h2, h3⟩ := h i hi
  ⟨b, off, ha, cell_grown hb h1, cell_grown hb h2, cell_grown hb h3⟩

/-- A list of lists of texts. -/
def Lists (w : World) (a : Option Addr) (L : List (List Tx)) : Prop :=
  ∀ i, i < L.length → ∃ b off ai ci, a = some ⟨b, off, none⟩ ∧ w.cell? ⟨b, off + i, none⟩ = some (.slice ai (L.getD i []).length ci) ∧ (L.getD i []).length ≤ maxLen ∧ Strs w ai (L.getD i [])

theorem Lists.grown {w w' : World} {a : Option Addr} {L : List (List Tx)} (h : Lists w a L) (hb : Below w.heap.size w w') : Lists w' a L := fun i hi =>
  let ⟨b, off, ai, ci, ha, h1, h2, h3⟩ := h i hi
  ⟨b, off, ai, ci, ha, cell_grown hb h1, h2, h3.grown hb⟩

def inB (n lo hi : Int) : Bool := decide (lo ≤ n ∧ n ≤ hi)

set_option maxHeartbeats 400000 in
theorem within_any (n lo hi : Int) (w : World) :
    Calls Tryz.prog 78 #[.int .i64 n, .int .i64 lo, .int .i64 hi] w fun e w' => e = .returned (.bool (inB n lo hi)) ∧ w = w' := by
  go_enter Tryz.func78, Tryz.ntmps78
  by_cases h1 : lo ≤ n <;> by_cases h2 : n ≤ hi
  all_goals
    go_wp2
    go_ret
    exact ⟨by simp [inB, *], rfl⟩

set_option maxHeartbeats 400000 in
theorem rin_any (n lo hi : Int) (w : World) :
    Calls Tryz.prog 49 #[.int .i64 n, .int .i64 lo, .int .i64 hi] w fun e w' => e = .returned (.bool (inB n lo hi)) ∧ w = w' := by
  go_enter Tryz.func49, Tryz.ntmps49
  by_cases h1 : lo ≤ n <;> by_cases h2 : n ≤ hi
  all_goals
    go_wp2
    go_ret
    exact ⟨by simp [inB, *], rfl⟩

/-- May a mark have the value? -/
def valueOk (n : Int) : Bool := inB n 0 999999999

/-- May there be such a member? -/
def memberOk (n : Int) : Bool := inB n 0 999

set_option maxHeartbeats 400000 in
theorem validValue_any (n : Int) (w : World) :
    Calls Tryz.prog 95 #[.int .i64 n] w fun e w' => e = .returned (.bool (valueOk n)) ∧ w = w' := by
  go_enter Tryz.func95, Tryz.ntmps95
  go_wp2_with (go_at_call 78; refine (within_any _ _ _ _).mono ?_; rintro e w' ⟨rfl, rfl⟩)
  go_ret
  exact ⟨rfl, rfl⟩

set_option maxHeartbeats 400000 in
theorem validMember_any (n : Int) (w : World) :
    Calls Tryz.prog 111 #[.int .i64 n] w fun e w' => e = .returned (.bool (memberOk n)) ∧ w = w' := by
  go_enter Tryz.func111, Tryz.ntmps111
  go_wp2_with (go_at_call 78; refine (within_any _ _ _ _).mono ?_; rintro e w' ⟨rfl, rfl⟩)
  go_ret
  exact ⟨rfl, rfl⟩

/-- May the byte be one of a text? -/
def byteOk (n : Int) : Bool := inB n 33 126

set_option maxHeartbeats 400000 in
theorem byteOk_any (c : Int) (w : World) (hc : 0 ≤ c ∧ c ≤ 255) :
    Calls Tryz.prog 105 #[.int .u8 c] w fun e w' => e = .returned (.bool (byteOk c)) ∧ w = w' := by
  go_enter Tryz.func105, Tryz.ntmps105
  go_wp2_with fail
  refine (within_any _ _ _ _).mono ?_
  rintro e w' ⟨rfl, rfl⟩
  go_wp2
  go_ret
  exact ⟨rfl, rfl⟩

end Go.Proofs.YtbampfkmgjfofaaGreatDoor
