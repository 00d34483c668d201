/- Tongue: how the arguments of the laws are opened: texts, in memory as they came in. -/
import Derived.Test.YtohahlnhbppnhaaAC
import Derived.Lib.SmallJoins
import Derived.Deep.SlicePairs
import Derived.ProofKit
namespace Go.Proofs.Ytohahlnhbppnhaa
open Go.ChangeShapes Go.WideShapes Go.ChangeAt Go.RowKit Go.Joins Go.Deep
set_option linter.unusedSimpArgs false
set_option linter.unusedVariables false

theorem Try.own : ownKnob Try.prog.godebug = none := by kernel_rfl
theorem cellsR3 : Try.prog.cellsOf 3 = 1 := by kernel_rfl
theorem cellsR41 : Try.prog.cellsOf 41 = 1 := by kernel_rfl
theorem cellsR103 : Try.prog.cellsOf 103 = 2 := by kernel_rfl

theorem two_of {α : Type} {l : List α} (h : l.length = 2) : ∃ a b, l = [a, b] := by
  match l, h with
  | [a, b], _ => exact ⟨a, b, rfl⟩

section
variable {H : Type} {enc : TypeId × Value → H} {W : World}

/-- A slice, element by element. -/
theorem open_each {α : Type} [Inhabited α] {T E k : Nat} (hT : Try.prog.underlying T = some (.slice E)) (hk : Try.prog.cellsOf E = k) (hk0 : 0 < k) (R : α → List Value → Prop)
    (hread : ∀ n cs y, cs.length = k → DataW.trod enc Try.prog W 0 (fun _ => true) true n E cs = some y → ∃ q, R q cs)
    {fuel : Nat} {v : Value} {y : DataW H × List MemPlace} (h : DataW.trod enc Try.prog W 0 (fun _ => true) true fuel T [v] = some y) :
    ∃ (a : Option Addr) (n cap : Nat) (f : Nat → α), v = .slice a n cap ∧ n ≤ maxLen ∧ n ≤ cap ∧ ∀ i, i < n → ∃ b off cs, a = some ⟨b, off, none⟩ ∧ R (f i) cs ∧ cs.length = k ∧ ∀ j, j < k → W.cell? ⟨b, off + i * k + j, none⟩ = cs[j]? := by
  rcases open_slice hT h with ⟨hcs, -⟩ | ⟨a, len, cap, m, n, D, Pl, hcs, -, hl, hm, hmm, -, hx⟩
  · simp only [List.cons.injEq, and_true] at hcs
    exact ⟨none, 0, 0, fun _ => default, hcs, Nat.zero_le _, Nat.le_refl _, fun i hi => by omega⟩
  · simp only [List.cons.injEq, and_true] at hcs
    have hlm : len ≤ m := by rw [hmm]; simp; exact hl
    have each : ∀ i, i < m → ∃ q : α × List Value, R q.1 q.2 ∧ q.2.length = k ∧ (∀ j, j < k → W.cell? (a.add (i * k + j)) = q.2[j]?) := by
      intro i hi
      obtain ⟨cs', h1, h2⟩ := hx i hi
      rw [hk] at h1
      obtain ⟨_, hlen, hcell⟩ := World.cells?_some h1
      obtain ⟨q, hq⟩ := hread _ _ _ hlen h2
      refine ⟨(q, cs'), hq, hlen, fun j hj => ?_⟩
      have e := hcell j (by omega)
      rw [Deep.add_add] at e
      exact e
    obtain ⟨q, hq⟩ := choose_lt each
    refine ⟨some a, len, cap, fun i => (q i).1, hcs, Nat.le_trans hl hm, hl, fun i hi => ?_⟩
    obtain ⟨r1, r2, r3⟩ := hq i (by omega)
    obtain ⟨b, off, spot⟩ := a
    have hspot : spot = none := by
      obtain ⟨-, s2, s3⟩ := hq 0 (by omega)
      have e0 := s3 0 hk0
      obtain ⟨u, hu⟩ : ∃ u, (q 0).2[0]? = some u := ⟨_, List.getElem?_eq_getElem (by omega)⟩
      rw [hu, Nat.zero_mul] at e0
      simpa [Addr.add] using World.cell?_spot e0
    subst hspot
    refine ⟨b, off, (q i).2, rfl, r1, r2, fun j hj => ?_⟩
    have e := r3 j hj
    rw [Go.Proofs.Ytohahlnhbppnhaa.add_plain] at e
    rw [← e, Nat.add_assoc]

theorem getD_map_range {α : Type} (f : Nat → α) (n i : Nat) (d : α) (hi : i < n) : ((List.range n).map f).getD i d = f i := by
  rw [List.getD_eq_getElem?_getD, List.getElem?_map, List.getElem?_range hi]
  rfl

theorem open_ints41 {fuel : Nat} {v : Value} {y : DataW H × List MemPlace} (h : DataW.trod enc Try.prog W 0 (fun _ => true) true fuel 41 [v] = some y) :
    ∃ (a : Option Addr) (n cap : Nat) (L : List Int), v = .slice a n cap ∧ L.length = n ∧ n ≤ maxLen ∧ n ≤ cap ∧ IntsAt W a L := by
  obtain ⟨a, n, cap, f, rfl, h1, h2, h3⟩ := open_each (α := Int) Try.underlying41 cellsR3 (by decide) (fun s cs => cs = [.int .i64 s]) (fun n cs y hl ht => by
    obtain ⟨s, rfl, -⟩ := DataW.trod_int Try.underlying3 ht
    exact ⟨s, rfl⟩) h
  refine ⟨a, n, cap, (List.range n).map f, rfl, by simp, h1, h2, fun i hi => ?_⟩
  have hi' : i < n := by simpa using hi
  obtain ⟨b, off, cs, ha, hR, -, hc⟩ := h3 i hi'
  rw [getD_map_range f n i _ hi']
  have := hc 0 (by decide)
  rw [hR, Nat.mul_one] at this
  exact ⟨b, off, ha, this⟩

set_option maxRecDepth 100000 in
theorem open_text22 {fuel : Nat} {v : Value} {y : DataW H × List MemPlace} (h : DataW.trod enc Try.prog W 0 (fun _ => true) true fuel 22 [v] = some y) :
    ∃ (a : Option Addr) (n cap : Nat) (L : List Sen), v = .slice a n cap ∧ L.length = n ∧ n ≤ maxLen ∧ n ≤ cap ∧ TextAt W a L := by
  obtain ⟨a, n, cap, f, rfl, h1, h2, h3⟩ := open_each (α := Sen) Try.underlying22 cellsR103 (by decide) (fun q cs => ∃ pa pc, cs = [.slice pa q.marks.length pc, .int .i64 q.size] ∧ IntsAt W pa q.marks) (fun n cs y hl ht => by
    obtain ⟨v0, v1, rfl⟩ := two_of hl
    obtain ⟨xs, k, _, _, _, hxl, hf⟩ := DataW.trod_struct Try.underlying103 ht
    obtain ⟨y0, y1, rfl⟩ := two_of hxl
    have g0 := hf 0 _ rfl
    have g1 := hf 1 _ rfl
    simp [cellsR41, cellsR3] at g0 g1
    obtain ⟨pa, m, pc, N, e0, hN, hm, -, hS⟩ := open_ints41 g0
    obtain ⟨i1, e1, -⟩ := DataW.trod_int Try.underlying3 g1
    simp only [List.cons.injEq, and_true] at e1
    subst e0 e1
    exact ⟨⟨N, i1⟩, pa, pc, by show _ = [Value.slice pa N.length pc, _]; rw [hN], hS⟩) h
  refine ⟨a, n, cap, (List.range n).map f, rfl, by simp, h1, h2, fun i hi => ?_⟩
  have hi' : i < n := by simpa using hi
  obtain ⟨b, off, cs, ha, ⟨pa, pc, hR, hS⟩, -, hc⟩ := h3 i hi'
  rw [getD_map_range f n i _ hi']
  have c0 := hc 0 (by decide)
  have c1 := hc 1 (by decide)
  rw [hR] at c0 c1
  exact ⟨b, off, pa, pc, ha, c0, c1, hS⟩

set_option maxRecDepth 100000 in
theorem open_text {base : Nat} {r : Reach} {v : Value} {d : DataW H} {p : List MemPlace} (hv : Value.okWide Try.prog W r base 22 v) (h : DataW.Trod enc Try.prog W 0 (fun _ => true) true 22 v d p) :
    ∃ (a : Option Addr) (n cap : Nat) (L : List Sen), v = .slice a n cap ∧ L.length = n ∧ n ≤ 9223372036854775807 ∧ TextAt W a L := by
  obtain ⟨a0, len0, cap0, rfl⟩ := okWide_slice Try.underlying22 hv
  obtain ⟨fuel, hf⟩ := h
  have hf' : DataW.trod enc Try.prog W 0 (fun _ => true) true fuel 22 [.slice a0 len0 cap0] = some (d, p) := by simpa [Value.cells] using hf
  obtain ⟨a, n, cap, L, e, hL, hn, -, hS⟩ := open_text22 hf'
  cases e
  exact ⟨a0, len0, cap0, L, rfl, hL, by unfold maxLen at hn; omega, hS⟩

end

end Go.Proofs.Ytohahlnhbppnhaa
