/- Tongue: how the arguments of the laws are opened: one sentence; how long a text is at most. -/
import Derived.Test.YtohahlnhbppnhaaRA
import Derived.SizedLaws
namespace Go.Proofs.Ytohahlnhbppnhaa
open Go.ChangeShapes Go.WideShapes Go.ChangeAt Go.RowKit Go.Joins Go.Deep
set_option linter.unusedSimpArgs false
set_option linter.unusedVariables false

theorem bytesR103 : Try.prog.bytesOf 103 = 32 := by kernel_rfl

section
variable {H : Type} {enc : TypeId × Value → H} {W : World}

/-- A text is read as a slice of so many sentences. -/
theorem text_data {a : Option Addr} {n cap : Nat} {d : DataW H} {p : List MemPlace} (h : DataW.Trod enc Try.prog W 0 (fun _ => true) true 22 (.slice a n cap) d p) :
    n = 0 ∨ ∃ E S, d = .slice E S ∧ E.length = n := by
  obtain ⟨fuel, hf⟩ := h
  have hf' : DataW.trod enc Try.prog W 0 (fun _ => true) true fuel 22 [.slice a n cap] = some (d, p) := by simpa [Value.cells] using hf
  rcases open_slice Try.underlying22 hf' with ⟨hcs, -⟩ | ⟨a', len, cap', m, nn, D, Pl, hcs, -, hl, hm, hmm, hy, hx⟩
  · simp only [List.cons.injEq, Value.slice.injEq, and_true] at hcs
    exact Or.inl hcs.2.1
  · simp only [List.cons.injEq, Value.slice.injEq, and_true] at hcs
    simp only [Prod.mk.injEq] at hy
    exact Or.inr ⟨_, _, hy.1, by simp [hcs.2.1]⟩

set_option maxRecDepth 100000 in
/-- One sentence. -/
theorem open_sen {base : Nat} {r : Reach} {v : Value} {d : DataW H} {p : List MemPlace} (hv : Value.okWide Try.prog W r base 103 v) (h : DataW.Trod enc Try.prog W 0 (fun _ => true) true 103 v d p) :
    ∃ (a : Option Addr) (k cap : Nat) (x : Sen), v = .agg #[.slice a k cap, .int .i64 x.size] ∧ x.marks.length = k ∧ k ≤ 9223372036854775807 ∧ IntsAt W a x.marks := by
  obtain ⟨x0, x1, y0, y1, nn, rfl, -, -, g0, g1⟩ := open_agg2 Try.underlying103 (by kernel_rfl) cellsR103 hv h
  obtain ⟨a, n, cap, L, e0, hL, hn, -, hS⟩ := open_ints41 g0
  obtain ⟨i1, e1, -⟩ := DataW.trod_int Try.underlying3 g1
  simp only [List.cons.injEq, and_true] at e1
  subst e0 e1
  exact ⟨a, n, cap, ⟨L, i1⟩, rfl, hL, by unfold maxLen at hn; omega, hS⟩

end

end Go.Proofs.Ytohahlnhbppnhaa
