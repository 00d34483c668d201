/- Mend: how the arguments of the laws are opened: requests. -/
import Derived.Test.YtbampfkmgjfofaaGreatDoorRB
import Derived.Test.YtbampfkmgjfofaaGreatDoorX
namespace Go.Proofs.YtbampfkmgjfofaaGreatDoor
open Go.ChangeShapes Go.WideShapes Go.ChangeAt Go.RowKit Go.Joins Go.Deep

section
variable {H : Type} {enc : TypeId × Value → H} {W : World}

/-- A request's numbers are Go's. -/
def ReqI (q : Req) : Prop := I64 q.b ∧ I64 q.m ∧ I64 q.f ∧ I64 q.c

set_option maxRecDepth 100000 in
theorem open_reqs57 {fuel : Nat} {v : Value} {y : DataW H × List MemPlace} (h : DataW.trod enc Tryz.prog W 0 (fun _ => true) true fuel 57 [v] = some y) :
    ∃ (a : Option Addr) (n cap : Nat) (L : List Req), v = .slice a n cap ∧ L.length = n ∧ n ≤ maxLen ∧ ReqsAt W a L ∧ (∀ q ∈ L, ReqI q) ∧ n ≤ cap := by
  obtain ⟨a, n, cap, f, rfl, h1, h2, h3⟩ := open_each (α := Req) Tryz.underlying57 cellsR99 (by decide) (fun q cs => ∃ pa pc, cs = [.int .i64 q.b, .int .i64 q.m, .int .i64 q.f, .int .i64 q.c, .slice pa q.put.length pc] ∧ q.put.length ≤ maxLen ∧ Strs W pa q.put ∧ ReqI q) (fun n cs y hl ht => by
    obtain ⟨v0, v1, v2, v3, v4, rfl⟩ := five_of hl
    obtain ⟨xs, k, _, _, _, hxl, hf⟩ := DataW.trod_struct Tryz.underlying99 ht
    obtain ⟨y0, y1, y2, y3, y4, rfl⟩ := five_of hxl
    have g0 := hf 0 _ rfl
    have g1 := hf 1 _ rfl
    have g2 := hf 2 _ rfl
    have g3 := hf 3 _ rfl
    have g4 := hf 4 _ rfl
    simp [cellsR24, cellsR3] at g0 g1 g2 g3 g4
    obtain ⟨i0, e0, -, w0⟩ := DataW.trod_int Tryz.underlying3 g0
    obtain ⟨i1, e1, -, w1⟩ := DataW.trod_int Tryz.underlying3 g1
    obtain ⟨i2, e2, -, w2⟩ := DataW.trod_int Tryz.underlying3 g2
    obtain ⟨i3, e3, -, w3⟩ := DataW.trod_int Tryz.underlying3 g3
    obtain ⟨pa, m, pc, N, e4, hN, hm, -, hS⟩ := open_strs24 g4
    simp only [List.cons.injEq, and_true] at e0 e1 e2 e3
    subst e0 e1 e2 e3 e4
    exact ⟨⟨i0, i1, i2, i3, N⟩, pa, pc, by show _ = [_, _, _, _, Value.slice pa N.length pc]; rw [hN], by show N.length ≤ _; omega, hS, bounds_i64 w0, bounds_i64 w1, bounds_i64 w2, bounds_i64 w3⟩) h
  refine ⟨a, n, cap, (List.range n).map f, rfl, by simp, h1, fun i hi => ?_, fun q hq => ?_, h2⟩
  · have hi' : i < n := by simpa using hi
    obtain ⟨b, off, cs, ha, ⟨pa, pc, hR, hm, hS, -⟩, -, hc⟩ := h3 i hi'
    rw [getD_map_range f n i _ hi']
    have c0 := hc 0 (by decide)
    have c1 := hc 1 (by decide)
    have c2 := hc 2 (by decide)
    have c3 := hc 3 (by decide)
    have c4 := hc 4 (by decide)
    rw [hR] at c0 c1 c2 c3 c4
    exact ⟨b, off, pa, pc, ha, c0, c1, c2, c3, c4, hm, hS⟩
  · obtain ⟨i, hi, rfl⟩ := List.mem_map.1 hq
    obtain ⟨_, _, _, _, ⟨_, _, _, _, _, h4⟩, _⟩ := h3 i (List.mem_range.1 hi)
    exact h4

set_option maxRecDepth 100000 in
theorem open_reqs {base : Nat} {r : Reach} {v : Value} {d : DataW H} {p : List MemPlace} (hv : Value.okWide Tryz.prog W r base 57 v) (h : DataW.Trod enc Tryz.prog W 0 (fun _ => true) true 57 v d p) :
    ∃ (a : Option Addr) (n cap : Nat) (L : List Req), v = .slice a n cap ∧ L.length = n ∧ n ≤ maxLen ∧ ReqsAt W a L ∧ (∀ q ∈ L, ReqI q) ∧ n ≤ cap := by
  obtain ⟨a0, len0, cap0, rfl⟩ := okWide_slice Tryz.underlying57 hv
  obtain ⟨fuel, hf⟩ := h
  have hf' : DataW.trod enc Tryz.prog W 0 (fun _ => true) true fuel 57 [.slice a0 len0 cap0] = some (d, p) := by simpa [Value.cells] using hf
  exact open_reqs57 hf'

end

end Go.Proofs.YtbampfkmgjfofaaGreatDoor
