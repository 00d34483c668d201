/- How the arguments of the laws are opened: lists of numbers, and of pairs. -/
import Derived.Test.YtgapbaelifcifaaRB
namespace Go.Proofs.Ytgapbaelifcifaa
open Go.ChangeShapes Go.WideShapes Go.ChangeAt Go.RowKit Go.Joins Go.Deep

theorem cells115 : Try.prog.cellsOf 115 = 2 := by kernel_rfl

section
variable {H : Type} {enc : TypeId × Value → H} {W : World}

set_option maxRecDepth 100000 in
theorem open_reals {base : Nat} {r : Reach} {v : Value} {d : DataW H} {p : List MemPlace} (hv : Value.okWide Try.prog W r base 66 v) (h : DataW.Trod enc Try.prog W 0 (fun _ => true) true 66 v d p) :
    ∃ (a : Option Addr) (n cap : Nat) (L : List (Int × Int)), v = .slice a n cap ∧ L.length = n ∧ n ≤ maxLen ∧ Spans W a L := by
  obtain ⟨a0, len0, cap0, rfl⟩ := okWide_slice Try.underlying66 hv
  obtain ⟨fuel, hf⟩ := h
  have hf' : DataW.trod enc Try.prog W 0 (fun _ => true) true fuel 66 [.slice a0 len0 cap0] = some (d, p) := by simpa [Value.cells] using hf
  rcases open_slice_pairs Try.underlying66 Try.underlying115 cells115 rfl rfl cells3 cells3 hf' with ⟨hcs, -⟩ | ⟨a, len, cap, m, n, V0, V1, D0, D1, P0, P1, hcs, -, hl, hm, hmm, -, hcell⟩
  · simp only [List.cons.injEq, and_true] at hcs
    exact ⟨none, 0, 0, [], hcs, rfl, Nat.zero_le _, fun i hi => by simp at hi⟩
  · simp only [List.cons.injEq, and_true] at hcs
    have hlm : len ≤ m := by rw [hmm]; simp; exact hl
    refine ⟨some a, len, cap, (List.range len).map fun i => (intOf (V0 i), intOf (V1 i)), hcs, by simp, Nat.le_trans hl hm, fun i hi => ?_⟩
    have hi' : i < len := by simpa using hi
    obtain ⟨c0, c1, t0, t1⟩ := hcell i (by omega)
    obtain ⟨b, off, spot⟩ := a
    have hspot : spot = none := by simpa [Addr.add] using World.cell?_spot (hcell 0 (by omega)).1
    subst hspot
    obtain ⟨x0, e0, -⟩ := DataW.trod_int Try.underlying3 t0
    obtain ⟨x1, e1, -⟩ := DataW.trod_int Try.underlying3 t1
    simp only [List.cons.injEq, and_true] at e0 e1
    refine ⟨b, off, rfl, ?_, ?_⟩
    · rw [List.getD_eq_getElem?_getD, List.getElem?_map, List.getElem?_range hi']
      simp only [Option.map_some, Option.getD_some]
      rw [e0] at c0 ⊢
      rw [add_plain] at c0
      exact c0
    · rw [List.getD_eq_getElem?_getD, List.getElem?_map, List.getElem?_range hi']
      simp only [Option.map_some, Option.getD_some]
      rw [e1] at c1 ⊢
      rw [add_plain] at c1
      exact c1

set_option maxRecDepth 100000 in
theorem open_rota {base : Nat} {r : Reach} {v : Value} {d : DataW H} {p : List MemPlace} (hv : Value.okWide Try.prog W r base 53 v) (h : DataW.Trod enc Try.prog W 0 (fun _ => true) true 53 v d p) :
    ∃ (a : Option Addr) (n cap : Nat) (Z : List Int), v = .slice a n cap ∧ Z.length = n ∧ n ≤ maxLen ∧ Ints W a Z ∧ (a = none → cap = 0) := by
  obtain ⟨a0, len0, cap0, rfl⟩ := okWide_slice Try.underlying53 hv
  obtain ⟨fuel, hf⟩ := h
  have hf' : DataW.trod enc Try.prog W 0 (fun _ => true) true fuel 53 [.slice a0 len0 cap0] = some (d, p) := by simpa [Value.cells] using hf
  rcases open_ints Try.underlying53 Try.underlying3 cells3 hf' with ⟨hcs, -⟩ | ⟨a, len, cap, zs, hcs, -, hl, hm, hz, -, hcell, -⟩
  · simp only [List.cons.injEq, and_true] at hcs
    exact ⟨none, 0, 0, [], hcs, rfl, Nat.zero_le _, fun i hi => by simp at hi, fun _ => rfl⟩
  · simp only [List.cons.injEq, and_true] at hcs
    have hlm : len ≤ zs.length := by rw [hz]; simp; exact hl
    refine ⟨some a, len, cap, zs.take len, hcs, by simp; omega, Nat.le_trans hl hm, fun i hi => ?_, fun h => by simp at h⟩
    have hi' : i < len := by simp at hi; omega
    have hi2 : i < zs.length := by omega
    have c0 := hcell i hi2
    obtain ⟨b, off, spot⟩ := a
    have hspot : spot = none := by simpa [Addr.add] using World.cell?_spot (hcell 0 (by omega))
    subst hspot
    rw [add_plain] at c0
    refine ⟨b, off, rfl, ?_⟩
    rw [c0]
    simp [List.getD_eq_getElem?_getD, hi']

end

end Go.Proofs.Ytgapbaelifcifaa
