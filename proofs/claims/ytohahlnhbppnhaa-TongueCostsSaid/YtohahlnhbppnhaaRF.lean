/- Tongue: how the arguments of the laws are opened: steps, truths. -/
import Derived.Test.YtohahlnhbppnhaaRA
import Derived.Test.YtohahlnhbppnhaaBQ
import Derived.Carry
namespace Go.Proofs.Ytohahlnhbppnhaa
open Go.ChangeShapes Go.WideShapes Go.ChangeAt Go.RowKit Go.Joins Go.Deep
set_option linter.unusedSimpArgs false
set_option linter.unusedVariables false

theorem cellsR37 : Try.prog.cellsOf 37 = 2 := by kernel_rfl
theorem cellsR4 : Try.prog.cellsOf 4 = 1 := by kernel_rfl

section
variable {H : Type} {enc : TypeId × Value → H} {W : World}

set_option maxRecDepth 100000 in
theorem open_steps {base : Nat} {r : Reach} {v : Value} {d : DataW H} {p : List MemPlace} (hv : Value.okWide Try.prog W r base 32 v) (h : DataW.Trod enc Try.prog W 0 (fun _ => true) true 32 v d p) :
    ∃ (a : Option Addr) (n cap : Nat) (L : List (Int × Int)), v = .slice a n cap ∧ L.length = n ∧ n ≤ 9223372036854775807 ∧ PairsAt W a L := by
  obtain ⟨a0, len0, cap0, rfl⟩ := okWide_slice Try.underlying32 hv
  obtain ⟨fuel, hf⟩ := h
  have hf' : DataW.trod enc Try.prog W 0 (fun _ => true) true fuel 32 [.slice a0 len0 cap0] = some (d, p) := by simpa [Value.cells] using hf
  obtain ⟨a, n, cap, f, e, h1, h2, h3⟩ := open_each (α := Int × Int) Try.underlying32 cellsR37 (by decide) (fun q cs => cs = [.int .i64 q.1, .int .i64 q.2]) (fun n cs y hl ht => by
    obtain ⟨v0, v1, rfl⟩ := two_of hl
    obtain ⟨xs, k, _, _, _, hxl, hf⟩ := DataW.trod_struct Try.underlying37 ht
    obtain ⟨y0, y1, rfl⟩ := two_of hxl
    have g0 := hf 0 _ rfl
    have g1 := hf 1 _ rfl
    simp [cellsR3] at g0 g1
    obtain ⟨i0, e0, -⟩ := DataW.trod_int Try.underlying3 g0
    obtain ⟨i1, e1, -⟩ := DataW.trod_int Try.underlying3 g1
    simp only [List.cons.injEq, and_true] at e0 e1
    subst e0 e1
    exact ⟨(i0, i1), rfl⟩) hf'
  cases e
  refine ⟨a0, len0, cap0, (List.range len0).map f, rfl, by simp, by unfold maxLen at h1; omega, fun i hi => ?_⟩
  have hi' : i < len0 := by simpa using hi
  obtain ⟨b, off, cs, ha, hR, -, hc⟩ := h3 i hi'
  rw [getD_map_range f len0 i _ hi']
  have c0 := hc 0 (by decide)
  have c1 := hc 1 (by decide)
  rw [hR] at c0 c1
  exact ⟨b, off, ha, c0, c1⟩

set_option maxRecDepth 100000 in
theorem open_bools {base : Nat} {r : Reach} {v : Value} {d : DataW H} {p : List MemPlace} (hv : Value.okWide Try.prog W r base 61 v) (h : DataW.Trod enc Try.prog W 0 (fun _ => true) true 61 v d p) :
    ∃ (a : Option Addr) (n cap : Nat) (L : List Bool), v = .slice a n cap ∧ L.length = n ∧ n ≤ 9223372036854775807 ∧ BoolsAt W a L := by
  obtain ⟨a0, len0, cap0, rfl⟩ := okWide_slice Try.underlying61 hv
  obtain ⟨fuel, hf⟩ := h
  have hf' : DataW.trod enc Try.prog W 0 (fun _ => true) true fuel 61 [.slice a0 len0 cap0] = some (d, p) := by simpa [Value.cells] using hf
  obtain ⟨a, n, cap, f, e, h1, h2, h3⟩ := open_each (α := Bool) Try.underlying61 cellsR4 (by decide) (fun s cs => cs = [.bool s]) (fun n cs y hl ht => by
    obtain ⟨s, rfl, -⟩ := DataW.trod_bool Try.underlying4 ht
    exact ⟨s, rfl⟩) hf'
  cases e
  refine ⟨a0, len0, cap0, (List.range len0).map f, rfl, by simp, by unfold maxLen at h1; omega, fun i hi => ?_⟩
  have hi' : i < len0 := by simpa using hi
  obtain ⟨b, off, cs, ha, hR, -, hc⟩ := h3 i hi'
  rw [getD_map_range f len0 i _ hi']
  have := hc 0 (by decide)
  rw [hR, Nat.mul_one] at this
  exact ⟨b, off, ha, this⟩

end

end Go.Proofs.Ytohahlnhbppnhaa
