/- How the arguments of the laws are opened: a sitting, in memory as it came in. -/
import Derived.Test.YtgapbaelifcifaaB
import Derived.Lib.SmallJoins
import Derived.Deep.SlicePairs
import Derived.ProofKit
namespace Go.Proofs.Ytgapbaelifcifaa
open Go.ChangeShapes Go.WideShapes Go.ChangeAt Go.RowKit Go.Joins Go.Deep

theorem Try.own : ownKnob Try.prog.godebug = none := by kernel_rfl
theorem Try.laidOut : laidOutB Try.prog = true := by kernel_rfl

theorem cells51 : Try.prog.cellsOf 51 = 2 := by kernel_rfl
theorem cells24 : Try.prog.cellsOf 24 = 4 := by kernel_rfl
theorem cells3 : Try.prog.cellsOf 3 = 1 := by kernel_rfl

section
variable {H : Type} {enc : TypeId × Value → H} {W : World}

theorem open_spans22 {fuel : Nat} {v : Value} {y : DataW H × List MemPlace} (h : DataW.trod enc Try.prog W 0 (fun _ => true) true fuel 22 [v] = some y) :
    ∃ (a : Option Addr) (n cap : Nat) (L : List (Int × Int)), v = .slice a n cap ∧ L.length = n ∧ n ≤ maxLen ∧ Spans W a L := by
  rcases open_slice_pairs Try.underlying22 Try.underlying51 cells51 rfl rfl cells3 cells3 h with ⟨hcs, -⟩ | ⟨a, len, cap, m, n, V0, V1, D0, D1, P0, P1, hcs, -, hl, hm, hmm, -, hcell⟩
  · simp only [List.cons.injEq, and_true] at hcs
    exact ⟨none, 0, 0, [], hcs, rfl, Nat.zero_le _, fun i hi => by simp at hi⟩
  · simp only [List.cons.injEq, and_true] at hcs
    have hlm : len ≤ m := by rw [hmm]; simp; exact hl
    refine ⟨some a, len, cap, (List.range len).map fun i => (intOf (V0 i), intOf (V1 i)), hcs, by simp, Nat.le_trans hl hm, fun i hi => ?_⟩
    have hi' : i < len := by simpa using hi
    obtain ⟨c0, c1, t0, t1⟩ := hcell i (by omega)
    obtain ⟨b, off, spot⟩ := a
    have hspot : spot = none := by simpa [Addr.add] using World.cell?_spot (hcell 0 (by omega)).1
    subst hspot
    obtain ⟨x0, e0, -⟩ := DataW.trod_int Try.underlying3 t0
    obtain ⟨x1, e1, -⟩ := DataW.trod_int Try.underlying3 t1
    simp only [List.cons.injEq, and_true] at e0 e1
    refine ⟨b, off, rfl, ?_, ?_⟩
    · rw [List.getD_eq_getElem?_getD, List.getElem?_map, List.getElem?_range hi']
      simp only [Option.map_some, Option.getD_some]
      rw [e0] at c0 ⊢
      rw [add_plain] at c0
      exact c0
    · rw [List.getD_eq_getElem?_getD, List.getElem?_map, List.getElem?_range hi']
      simp only [Option.map_some, Option.getD_some]
      rw [e1] at c1 ⊢
      rw [add_plain] at c1
      exact c1

set_option maxRecDepth 100000 in
theorem open_sitting {base : Nat} {r : Reach} {v : Value} {d : DataW H} {p : List MemPlace} (hv : Value.okWide Try.prog W r base 24 v) (h : DataW.Trod enc Try.prog W 0 (fun _ => true) true 24 v d p) :
    ∃ (len long short : Int) (a : Option Addr) (n cap : Nat) (L : List (Int × Int)), v = .agg #[.int .i64 len, .slice a n cap, .int .i64 long, .int .i64 short] ∧ L.length = n ∧ n ≤ maxLen ∧ Spans W a L := by
  obtain ⟨x0, x1, x2, x3, y0, y1, y2, y3, nn, rfl, -, -, g0, g1, g2, g3⟩ := open_agg4 Try.underlying24 (by kernel_rfl) cells24 hv h
  obtain ⟨i0, e0, -⟩ := DataW.trod_int Try.underlying3 g0
  obtain ⟨a, n, cap, L, rfl, hL, hn, hS⟩ := open_spans22 g1
  obtain ⟨i2, e2, -⟩ := DataW.trod_int Try.underlying3 g2
  obtain ⟨i3, e3, -⟩ := DataW.trod_int Try.underlying3 g3
  simp only [List.cons.injEq, and_true] at e0 e2 e3
  subst e0 e2 e3
  exact ⟨i0, i2, i3, a, n, cap, L, rfl, hL, hn, hS⟩

end

end Go.Proofs.Ytgapbaelifcifaa
