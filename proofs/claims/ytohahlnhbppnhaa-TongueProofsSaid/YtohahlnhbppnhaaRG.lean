/- Tongue: a text is opened, with its room. -/
import Derived.Test.YtohahlnhbppnhaaRA
namespace Go.Proofs.Ytohahlnhbppnhaa
open Go.ChangeShapes Go.WideShapes Go.ChangeAt Go.RowKit Go.Joins Go.Deep

section
variable {H : Type} {enc : TypeId × Value → H} {W : World}

set_option maxRecDepth 100000 in
theorem open_textc {base : Nat} {r : Reach} {v : Value} {d : DataW H} {p : List MemPlace} (hv : Value.okWide Try.prog W r base 22 v) (h : DataW.Trod enc Try.prog W 0 (fun _ => true) true 22 v d p) :
    ∃ (a : Option Addr) (n cap : Nat) (L : List Sen), v = .slice a n cap ∧ L.length = n ∧ n ≤ 9223372036854775807 ∧ n ≤ cap ∧ TextAt W a L := by
  obtain ⟨a0, len0, cap0, rfl⟩ := okWide_slice Try.underlying22 hv
  obtain ⟨fuel, hf⟩ := h
  have hf' : DataW.trod enc Try.prog W 0 (fun _ => true) true fuel 22 [.slice a0 len0 cap0] = some (d, p) := by simpa [Value.cells] using hf
  obtain ⟨a, n, cap, L, e, hL, hn, hc, hS⟩ := open_text22 hf'
  cases e
  exact ⟨a0, len0, cap0, L, rfl, hL, by unfold maxLen at hn; omega, hc, hS⟩


end

end Go.Proofs.Ytohahlnhbppnhaa
