/- Tongue: how the arguments of the laws are opened: bytes. -/
import Derived.Test.YtohahlnhbppnhaaRA
import Derived.Test.YtohahlnhbppnhaaBA
namespace Go.Proofs.Ytohahlnhbppnhaa
open Go.ChangeShapes Go.WideShapes Go.ChangeAt Go.RowKit Go.Joins Go.Deep
set_option linter.unusedSimpArgs false
set_option linter.unusedVariables false

theorem cellsR5 : Try.prog.cellsOf 5 = 1 := by kernel_rfl

section
variable {H : Type} {enc : TypeId × Value → H} {W : World}

set_option maxRecDepth 100000 in
theorem open_bytes {base : Nat} {r : Reach} {v : Value} {d : DataW H} {p : List MemPlace} (hv : Value.okWide Try.prog W r base 97 v) (h : DataW.Trod enc Try.prog W 0 (fun _ => true) true 97 v d p) :
    ∃ (a : Option Addr) (n cap : Nat) (L : List Int), v = .slice a n cap ∧ L.length = n ∧ n ≤ 9223372036854775807 ∧ BytesAt W a L := by
  obtain ⟨a0, len0, cap0, rfl⟩ := okWide_slice Try.underlying97 hv
  obtain ⟨fuel, hf⟩ := h
  have hf' : DataW.trod enc Try.prog W 0 (fun _ => true) true fuel 97 [.slice a0 len0 cap0] = some (d, p) := by simpa [Value.cells] using hf
  obtain ⟨a, n, cap, f, e, h1, h2, h3⟩ := open_each (α := Int) Try.underlying97 cellsR5 (by decide) (fun s cs => cs = [.int .u8 s] ∧ 0 ≤ s ∧ s ≤ 255) (fun n cs y hl ht => by
    obtain ⟨s, rfl, -, hw⟩ := DataW.trod_int Try.underlying5 ht
    exact ⟨s, rfl, by simpa [Lit.wf, IntKind.min, IntKind.max, IntKind.signed, IntKind.bits] using hw⟩) hf'
  cases e
  refine ⟨a0, len0, cap0, (List.range len0).map f, rfl, by simp, by unfold maxLen at h1; omega, fun i hi => ?_⟩
  have hi' : i < len0 := by simpa using hi
  obtain ⟨b, off, cs, ha, ⟨hR, hb⟩, -, hc⟩ := h3 i hi'
  rw [getD_map_range f len0 i _ hi']
  have := hc 0 (by decide)
  rw [hR, Nat.mul_one] at this
  exact ⟨b, off, ha, this, hb⟩

end

end Go.Proofs.Ytohahlnhbppnhaa
