/- Tongue: how the arguments of the laws are opened: speeches, numbers of 16 bits. -/
import Derived.Test.YtohahlnhbppnhaaRA
import Derived.Test.YtohahlnhbppnhaaBF
namespace Go.Proofs.Ytohahlnhbppnhaa
open Go.ChangeShapes Go.WideShapes Go.ChangeAt Go.RowKit Go.Joins Go.Deep
set_option linter.unusedSimpArgs false
set_option linter.unusedVariables false

theorem cellsR108 : Try.prog.cellsOf 108 = 2 := by kernel_rfl
theorem cellsR73 : Try.prog.cellsOf 73 = 3 := by kernel_rfl

section
variable {H : Type} {enc : TypeId × Value → H} {W : World}

set_option maxRecDepth 100000 in
theorem open_ranges71 {fuel : Nat} {v : Value} {y : DataW H × List MemPlace} (h : DataW.trod enc Try.prog W 0 (fun _ => true) true fuel 71 [v] = some y) :
    ∃ (a : Option Addr) (n cap : Nat) (L : List (Int × Int)), v = .slice a n cap ∧ L.length = n ∧ n ≤ maxLen ∧ PairsAt W a L := by
  obtain ⟨a, n, cap, f, rfl, h1, h2, h3⟩ := open_each (α := Int × Int) Try.underlying71 cellsR108 (by decide) (fun q cs => cs = [.int .i64 q.1, .int .i64 q.2]) (fun n cs y hl ht => by
    obtain ⟨v0, v1, rfl⟩ := two_of hl
    obtain ⟨xs, k, _, _, _, hxl, hf⟩ := DataW.trod_struct Try.underlying108 ht
    obtain ⟨y0, y1, rfl⟩ := two_of hxl
    have g0 := hf 0 _ rfl
    have g1 := hf 1 _ rfl
    simp [cellsR3] at g0 g1
    obtain ⟨i0, e0, -⟩ := DataW.trod_int Try.underlying3 g0
    obtain ⟨i1, e1, -⟩ := DataW.trod_int Try.underlying3 g1
    simp only [List.cons.injEq, and_true] at e0 e1
    subst e0 e1
    exact ⟨(i0, i1), rfl⟩) h
  refine ⟨a, n, cap, (List.range n).map f, rfl, by simp, h1, fun i hi => ?_⟩
  have hi' : i < n := by simpa using hi
  obtain ⟨b, off, cs, ha, hR, -, hc⟩ := h3 i hi'
  rw [getD_map_range f n i _ hi']
  have c0 := hc 0 (by decide)
  have c1 := hc 1 (by decide)
  rw [hR] at c0 c1
  exact ⟨b, off, ha, c0, c1⟩

set_option maxRecDepth 100000 in
theorem open_speech {base : Nat} {r : Reach} {v : Value} {d : DataW H} {p : List MemPlace} (hv : Value.okWide Try.prog W r base 73 v) (h : DataW.Trod enc Try.prog W 0 (fun _ => true) true 73 v d p) :
    ∃ (sa na : Option Addr) (ns nc ms mc : Nat) (s : Spoken), v = .agg #[.slice sa ns nc, .int .i64 s.lag, .slice na ms mc] ∧ s.starts.length = ns ∧ s.needs.length = ms ∧ ns ≤ 9223372036854775807 ∧ ms ≤ 9223372036854775807 ∧ IntsAt W sa s.starts ∧ PairsAt W na s.needs := by
  obtain ⟨x0, x1, x2, y0, y1, y2, nn, rfl, -, -, g0, g1, g2⟩ := open_agg3 Try.underlying73 (by kernel_rfl) cellsR73 hv h
  obtain ⟨sa, ns, nc, S, e0, hL, hn, -, hS⟩ := open_ints41 g0
  obtain ⟨i1, e1, -⟩ := DataW.trod_int Try.underlying3 g1
  obtain ⟨na, ms, mc, N, e2, hM, hm, hN⟩ := open_ranges71 g2
  simp only [List.cons.injEq, and_true] at e1
  subst e0 e1 e2
  exact ⟨sa, na, ns, nc, ms, mc, ⟨S, i1, N⟩, rfl, hL, hM, by unfold maxLen at hn; omega, by unfold maxLen at hm; omega, hS, hN⟩

end

end Go.Proofs.Ytohahlnhbppnhaa
