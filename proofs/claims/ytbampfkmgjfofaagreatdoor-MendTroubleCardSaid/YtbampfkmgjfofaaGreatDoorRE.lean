/- Mend: how the arguments of the laws are opened: one swap. -/
import Derived.Test.YtbampfkmgjfofaaGreatDoorRD
namespace Go.Proofs.YtbampfkmgjfofaaGreatDoor
open Go.ChangeShapes Go.WideShapes Go.ChangeAt Go.RowKit Go.Joins Go.Deep

section
variable {H : Type} {enc : TypeId × Value → H} {W : World}

set_option maxRecDepth 100000 in
theorem open_swap {base : Nat} {r : Reach} {v : Value} {d : DataW H} {p : List MemPlace} (hv : Value.okWide Tryz.prog W r base 96 v) (h : DataW.Trod enc Tryz.prog W 0 (fun _ => true) true 96 v d p) :
    ∃ mk mo mw : Int, v = .agg #[.int .u8 mk, .int .i64 mo, .int .i64 mw] := by
  obtain ⟨x0, x1, x2, y0, y1, y2, nn, rfl, -, -, g0, g1, g2⟩ := open_agg3 Tryz.underlying96 (by kernel_rfl) cellsR96 hv h
  obtain ⟨i0, e0, -⟩ := DataW.trod_int Tryz.underlying5 g0
  obtain ⟨i1, e1, -⟩ := DataW.trod_int Tryz.underlying3 g1
  obtain ⟨i2, e2, -⟩ := DataW.trod_int Tryz.underlying3 g2
  simp only [List.cons.injEq, and_true] at e0 e1 e2
  subst e0 e1 e2
  exact ⟨i0, i1, i2, rfl⟩

end

end Go.Proofs.YtbampfkmgjfofaaGreatDoor
