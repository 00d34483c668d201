/- Contracts of the closures that check a sitting's pauses. -/
import Derived.Test.YtgapbaelifcifaaA
import Derived.Deep.QuietTactic
import Derived.BigQuiet
namespace Go.Proofs.Ytgapbaelifcifaa
open Go.RowKit

def okSpan (from_ to len : Int) : Bool := decide (0 ≤ from_ ∧ from_ < to ∧ to ≤ len)

set_option maxHeartbeats 400000 in
theorem vs1_zero (from_ to len : Int) (bs : Nat) (w : World) 
    (h0 : w.cell? ⟨bs, 0, none⟩ = some (.int .i64 len)) :
    Calls Try.prog 85 #[.int .i64 0, .agg #[.int .i64 from_, .int .i64 to], .pointer (some ⟨bs, 0, none⟩)] w fun e w' =>
      e = .returned (.bool (okSpan from_ to len)) ∧ Below w.heap.size w w' := by
  have hbs := lt_of_cell h0
  go_enter Try.func85, Try.ntmps85
  go_wp2
  go_quiet (fail)
  by_cases a1 : 0 ≤ from_ <;> by_cases a2 : from_ < to <;> by_cases a3 : to ≤ len
  all_goals
    go_wp2
    go_ret
    exact ⟨by first | (simp [okSpan, *]; done) | (simp [okSpan, *]; omega), below_drewN ((Below.refl _ _).alloc (Nat.le_refl _) _) _⟩

set_option maxHeartbeats 400000 in
theorem vs1_succ (k : Nat) (from_ to len prev : Int) (bs b off n cap : Nat) (w : World) 
    (h0 : w.cell? ⟨bs, 0, none⟩ = some (.int .i64 len)) (h1 : w.cell? ⟨bs, 1, none⟩ = some (.slice (some ⟨b, off, none⟩) n cap))
    (hk : k < n) (hn : n ≤ maxLen) (hp : w.cell? ⟨b, off + k * 2 + 1, none⟩ = some (.int .i64 prev)) :
    Calls Try.prog 85 #[.int .i64 ((k : Int) + 1), .agg #[.int .i64 from_, .int .i64 to], .pointer (some ⟨bs, 0, none⟩)] w fun e w' =>
      e = .returned (.bool (!decide (from_ ≤ prev) && okSpan from_ to len)) ∧ Below w.heap.size w w' := by
  unfold maxLen at hn
  have hbs := lt_of_cell h0
  have hb := lt_of_cell hp
  go_enter Try.func85, Try.ntmps85
  go_wp2
  go_quiet (fail)
  go_wp2
  all_goals
    go_ret
    exact ⟨by first | (simp [okSpan, *]; done) | (simp [okSpan, *]; omega), below_drewN ((Below.refl _ _).alloc (Nat.le_refl _) _) _⟩

/-- A slice's elements, two numbers each, as they lie in memory. -/
def Spans (w : World) (a : Option Addr) (L : List (Int × Int)) : Prop :=
  ∀ i, i < L.length → ∃ b off, a = some ⟨b, off, none⟩ ∧ w.cell? ⟨b, off + i * 2, none⟩ = some (.int .i64 (L.getD i (0, 0)).1) ∧ w.cell? ⟨b, off + i * 2 + 1, none⟩ = some (.int .i64 (L.getD i (0, 0)).2)

theorem cell_below {B : Nat} {w w' : World} (h : Below B w w') {b o : Nat} {v : Value} (hb : b < B) (hc : w.cell? ⟨b, o, none⟩ = some v) : w'.cell? ⟨b, o, none⟩ = some v :=
  (h.cell (p := ⟨b, o, none⟩) hb).trans hc

theorem cell_grown {w w' : World} (h : Below w.heap.size w w') {b o : Nat} {v : Value} (hc : w.cell? ⟨b, o, none⟩ = some v) : w'.cell? ⟨b, o, none⟩ = some v :=
  cell_below h (lt_of_cell hc) hc

theorem Spans.grown {w w' : World} {a : Option Addr} {L : List (Int × Int)} (h : Spans w a L) (hb : Below w.heap.size w w') : Spans w' a L := fun i hi =>
  let ⟨b, off, ha, h1, h2⟩ := h i hi
  ⟨b, off, ha, cell_grown hb h1, cell_grown hb h2⟩

def pauseOk (len : Int) (L : List (Int × Int)) : Nat → Bool
  | 0 => okSpan (L.getD 0 (0, 0)).1 (L.getD 0 (0, 0)).2 len
  | k + 1 => !decide ((L.getD (k + 1) (0, 0)).1 ≤ (L.getD k (0, 0)).2) && okSpan (L.getD (k + 1) (0, 0)).1 (L.getD (k + 1) (0, 0)).2 len

def pausesOk (len : Int) (L : List (Int × Int)) : Bool := (List.range L.length).all (pauseOk len L)

theorem pausesOk_no {len : Int} {L : List (Int × Int)} {k : Nat} (hk : k < L.length) (h : pauseOk len L k = false) : pausesOk len L = false := by
  unfold pausesOk
  rw [List.all_eq_false]
  exact ⟨k, by simpa using hk, by simp [h]⟩

theorem pausesOk_yes {len : Int} {L : List (Int × Int)} (h : ∀ j, j < L.length → pauseOk len L j = true) : pausesOk len L = true := by
  unfold pausesOk
  rw [List.all_eq_true]
  intro x hx
  exact h x (by simpa using hx)

theorem vs1_any (k : Nat) (L : List (Int × Int)) (len : Int) (bs n cap : Nat) (a : Option Addr) (w : World)
    (hL : L.length = n) (hk : k < n) (hn : n ≤ maxLen) (h0 : w.cell? ⟨bs, 0, none⟩ = some (.int .i64 len)) (h1 : w.cell? ⟨bs, 1, none⟩ = some (.slice a n cap)) (hS : Spans w a L) :
    Calls Try.prog 85 #[.int .i64 (k : Int), .agg #[.int .i64 (L.getD k (0, 0)).1, .int .i64 (L.getD k (0, 0)).2], .pointer (some ⟨bs, 0, none⟩)] w fun e w' =>
      e = .returned (.bool (pauseOk len L k)) ∧ Below w.heap.size w w' := by
  cases k with
  | zero => exact vs1_zero _ _ len bs w h0
  | succ k =>
    obtain ⟨b, off, rfl, hc1, hc2⟩ := hS k (by omega)
    exact vs1_succ k _ _ len _ bs b off n cap w h0 h1 (by omega) hn hc2

end Go.Proofs.Ytgapbaelifcifaa
