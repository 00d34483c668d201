/- A region that draws and whose calls make memory is walked once, in the worlds that only grew. -/
import Derived.Test.YtgapbaelifcifaaB
import Derived.BigQuiet
namespace Go.Proofs.Ytgapbaelifcifaa
open Go.RowKit

/-- A world that grew from W. -/
structure Over (W : World) where
  w : World
  h : Below W.heap.size W w

instance overInhabited {W : World} : Inhabited (Over W) := ⟨⟨W, Below.refl _ _⟩⟩

theorem Over.cell {W : World} (p : Over W) {b off : Nat} {v : Value} (h : W.cell? ⟨b, off, none⟩ = some v) : p.w.cell? ⟨b, off, none⟩ = some v := cell_grown p.h h

theorem wp_region_over {P : Program} {id : Nat} {Q : Exit → Act → World → Prop} {a : Act} {w : World} {l : List Oper} (W : World) (hw : Below W.heap.size W w)
    (hm : P.follows .mixedOrders = true) (hB : Region.lexB .any l.toArray = true)
    (h : wpQuiet P l.toArray (fun w' => ∃ p : Over W, w' = p.w) (fun a' => ∀ w', (∃ p : Over W, w' = p.w) → Q .normal a' w') l a) :
    (Code.region id l.toArray true).wp P Q a w :=
  wp_region_quiet (C := fun w' => ∃ p : Over W, w' = p.w) hm hB ⟨⟨_, hw.drew⟩, rfl⟩ (by simpa using h)

theorem Calls.over_of {P : Program} {f : FuncId} {args : Array Value} {W : World} {p : Over W} {v : Value}
    (h : Calls P f args p.w fun e w' => e = .returned v ∧ Below p.w.heap.size p.w w') :
    Calls P f args p.w fun e w'' => e = .returned v ∧ ∃ q : Over W, w'' = q.w :=
  h.mono fun _ _ ⟨he, hb⟩ => ⟨he, ⟨⟨_, p.h.trans (hb.mono p.h.size)⟩, rfl⟩⟩

theorem over_below {W w' : World} (h : ∃ p : Over W, w' = p.w) : Below W.heap.size W w' := by
  obtain ⟨p, rfl⟩ := h
  exact p.h

end Go.Proofs.Ytgapbaelifcifaa
