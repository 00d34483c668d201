/- How the arguments of the laws are opened: an office, in memory as it came in. -/
import Derived.Test.YtgapbaelifcifaaRA
import Derived.Test.YtgapbaelifcifaaW
namespace Go.Proofs.Ytgapbaelifcifaa
open Go.ChangeShapes Go.WideShapes Go.ChangeAt Go.RowKit Go.Joins Go.Deep

theorem cells91 : Try.prog.cellsOf 91 = 3 := by kernel_rfl
theorem cells89 : Try.prog.cellsOf 89 = 2 := by kernel_rfl
theorem cells27 : Try.prog.cellsOf 27 = 3 := by kernel_rfl

section
variable {H : Type} {enc : TypeId × Value → H} {W : World}

theorem three_of {α : Type} {l : List α} (h : l.length = 3) : ∃ a b c, l = [a, b, c] := by
  match l, h with
  | [a, b, c], _ => exact ⟨a, b, c, rfl⟩
theorem two_of {α : Type} {l : List α} (h : l.length = 2) : ∃ a b, l = [a, b] := by
  match l, h with
  | [a, b], _ => exact ⟨a, b, rfl⟩

set_option maxRecDepth 100000 in
theorem reporter_ints {fuel : Nat} {cs : List Value} {y : DataW H × List MemPlace} (hl : cs.length = 3) (h : DataW.trod enc Try.prog W 0 (fun _ => true) true fuel 91 cs = some y) :
    ∃ x1 x2 x3 : Int, cs = [.int .i64 x1, .int .i64 x2, .int .i64 x3] := by
  obtain ⟨v0, v1, v2, rfl⟩ := three_of hl
  obtain ⟨xs, k, _, _, _, hxl, hf⟩ := DataW.trod_struct Try.underlying91 h
  obtain ⟨y0, y1, rfl⟩ := two_of hxl
  have g0 := hf 0 _ rfl
  have g1 := hf 1 _ rfl
  simp [cells89, cells3] at g0 g1
  obtain ⟨xs', k', _, _, _, hxl', hf'⟩ := DataW.trod_struct Try.underlying89 g0
  obtain ⟨z0, z1, rfl⟩ := two_of hxl'
  have q0 := hf' 0 _ rfl
  have q1 := hf' 1 _ rfl
  simp [cells3] at q0 q1
  obtain ⟨i0, e0, -⟩ := DataW.trod_int Try.underlying3 q0
  obtain ⟨i1, e1, -⟩ := DataW.trod_int Try.underlying3 q1
  obtain ⟨i2, e2, -⟩ := DataW.trod_int Try.underlying3 g1
  simp only [List.cons.injEq, and_true] at e0 e1 e2
  subst e0 e1 e2
  exact ⟨i0, i1, i2, rfl⟩

theorem open_crew25 {fuel : Nat} {v : Value} {y : DataW H × List MemPlace} (h : DataW.trod enc Try.prog W 0 (fun _ => true) true fuel 25 [v] = some y) :
    ∃ (a : Option Addr) (n cap : Nat) (C : List (Int × Int × Int)), v = .slice a n cap ∧ C.length = n ∧ n ≤ maxLen ∧ Crew W a C := by
  rcases open_slice Try.underlying25 h with ⟨hcs, -⟩ | ⟨a, len, cap, m, n, D, Pl, hcs, -, hl, hm, hmm, -, hx⟩
  · simp only [List.cons.injEq, and_true] at hcs
    exact ⟨none, 0, 0, [], hcs, rfl, Nat.zero_le _, fun i hi => by simp at hi⟩
  · simp only [List.cons.injEq, and_true] at hcs
    have hlm : len ≤ m := by rw [hmm]; simp; exact hl
    have each : ∀ i, i < m → ∃ q : Int × Int × Int, W.cell? (a.add (i * 3)) = some (.int .i64 q.1) ∧ W.cell? (a.add (i * 3 + 1)) = some (.int .i64 q.2.1) ∧ W.cell? (a.add (i * 3 + 2)) = some (.int .i64 q.2.2) := by
      intro i hi
      obtain ⟨cs', h1, h2⟩ := hx i hi
      rw [cells91] at h1
      obtain ⟨_, hlen, hcell⟩ := World.cells?_some h1
      obtain ⟨x1, x2, x3, rfl⟩ := reporter_ints hlen h2
      have e0 := hcell 0 (by omega)
      have e1 := hcell 1 (by omega)
      have e2 := hcell 2 (by omega)
      rw [Deep.add_add] at e0 e1 e2
      exact ⟨(x1, x2, x3), by simpa using e0, by simpa using e1, by simpa using e2⟩
    obtain ⟨q, hq⟩ := choose_lt each
    refine ⟨some a, len, cap, (List.range len).map q, hcs, by simp, Nat.le_trans hl hm, fun i hi => ?_⟩
    have hi' : i < len := by simpa using hi
    obtain ⟨c0, c1, c2⟩ := hq i (by omega)
    obtain ⟨b, off, spot⟩ := a
    have hspot : spot = none := by simpa [Addr.add] using World.cell?_spot (hq 0 (by omega)).1
    subst hspot
    rw [add_plain] at c0 c1 c2
    have hg : ((List.range len).map q).getD i (0, 0, 0) = q i := by
      rw [List.getD_eq_getElem?_getD, List.getElem?_map, List.getElem?_range hi']
      rfl
    rw [hg]
    exact ⟨b, off, rfl, c0, c1, c2⟩

set_option maxRecDepth 100000 in
theorem open_office {base : Nat} {r : Reach} {v : Value} {d : DataW H} {p : List MemPlace} (hv : Value.okWide Try.prog W r base 27 v) (h : DataW.Trod enc Try.prog W 0 (fun _ => true) true 27 v d p) :
    ∃ (due delay : Int) (a : Option Addr) (n cap : Nat) (C : List (Int × Int × Int)), v = .agg #[.slice a n cap, .int .i64 due, .int .i64 delay] ∧ C.length = n ∧ n ≤ maxLen ∧ Crew W a C := by
  obtain ⟨x0, x1, x2, y0, y1, y2, nn, rfl, -, -, g0, g1, g2⟩ := open_agg3 Try.underlying27 (by kernel_rfl) cells27 hv h
  obtain ⟨a, n, cap, C, rfl, hL, hn, hS⟩ := open_crew25 g0
  obtain ⟨i1, e1, -⟩ := DataW.trod_int Try.underlying3 g1
  obtain ⟨i2, e2, -⟩ := DataW.trod_int Try.underlying3 g2
  simp only [List.cons.injEq, and_true] at e1 e2
  subst e1 e2
  exact ⟨i1, i2, a, n, cap, C, rfl, hL, hn, hS⟩

end

end Go.Proofs.Ytgapbaelifcifaa
