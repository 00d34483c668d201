/- Mend: how the arguments of the laws are opened: lexica, swaps, reports, requests and texts, in memory as they came in. Mend: what the laws' listed variables hold: Std. -/
import Derived.Test.YtbampfkmgjfofaaGreatDoorX
import Derived.Test.YtbampfkmgjfofaaGreatDoorE
import Derived.Lib.SmallJoins
import Derived.Deep.SlicePairs
import Derived.ProofKit
import Derived.Test.YtbampfkmgjfofaaGreatDoorP
import Derived.LaidMore
import Derived.OpenShut
import Derived.Stop.Joined
import Derived.Lib.LaidTab
namespace Go.Proofs.YtbampfkmgjfofaaGreatDoor
open Go.ChangeShapes Go.WideShapes Go.ChangeAt Go.RowKit Go.Joins Go.Deep

theorem cellsR3 : Tryz.prog.cellsOf 3 = 1 := by kernel_rfl
theorem cellsR5 : Tryz.prog.cellsOf 5 = 1 := by kernel_rfl
theorem cellsR9 : Tryz.prog.cellsOf 9 = 1 := by kernel_rfl
theorem cellsR24 : Tryz.prog.cellsOf 24 = 1 := by kernel_rfl
theorem cellsR112 : Tryz.prog.cellsOf 112 = 2 := by kernel_rfl
theorem cellsR106 : Tryz.prog.cellsOf 106 = 2 := by kernel_rfl
theorem cellsR96 : Tryz.prog.cellsOf 96 = 3 := by kernel_rfl
theorem cellsR99 : Tryz.prog.cellsOf 99 = 5 := by kernel_rfl
theorem cellsR26 : Tryz.prog.cellsOf 26 = 3 := by kernel_rfl
theorem cellsR56 : Tryz.prog.cellsOf 56 = 3 := by kernel_rfl

theorem two_of {α : Type} {l : List α} (h : l.length = 2) : ∃ a b, l = [a, b] := by
  match l, h with
  | [a, b], _ => exact ⟨a, b, rfl⟩
theorem three_of {α : Type} {l : List α} (h : l.length = 3) : ∃ a b c, l = [a, b, c] := by
  match l, h with
  | [a, b, c], _ => exact ⟨a, b, c, rfl⟩
theorem five_of {α : Type} {l : List α} (h : l.length = 5) : ∃ a b c d e, l = [a, b, c, d, e] := by
  match l, h with
  | [a, b, c, d, e], _ => exact ⟨a, b, c, d, e, rfl⟩

section
variable {H : Type} {enc : TypeId × Value → H} {W : World}

/-- A slice, element by element. -/
theorem open_each {α : Type} [Inhabited α] {T E k : Nat} (hT : Tryz.prog.underlying T = some (.slice E)) (hk : Tryz.prog.cellsOf E = k) (hk0 : 0 < k) (R : α → List Value → Prop)
    (hread : ∀ n cs y, cs.length = k → DataW.trod enc Tryz.prog W 0 (fun _ => true) true n E cs = some y → ∃ q, R q cs)
    {fuel : Nat} {v : Value} {y : DataW H × List MemPlace} (h : DataW.trod enc Tryz.prog W 0 (fun _ => true) true fuel T [v] = some y) :
    ∃ (a : Option Addr) (n cap : Nat) (f : Nat → α), v = .slice a n cap ∧ n ≤ maxLen ∧ n ≤ cap ∧ ∀ i, i < n → ∃ b off cs, a = some ⟨b, off, none⟩ ∧ R (f i) cs ∧ cs.length = k ∧ ∀ j, j < k → W.cell? ⟨b, off + i * k + j, none⟩ = cs[j]? := by
  rcases open_slice hT h with ⟨hcs, -⟩ | ⟨a, len, cap, m, n, D, Pl, hcs, -, hl, hm, hmm, -, hx⟩
  · simp only [List.cons.injEq, and_true] at hcs
    exact ⟨none, 0, 0, fun _ => default, hcs, Nat.zero_le _, Nat.le_refl _, fun i hi => by omega⟩
  · simp only [List.cons.injEq, and_true] at hcs
    have hlm : len ≤ m := by rw [hmm]; simp; exact hl
    have each : ∀ i, i < m → ∃ q : α × List Value, R q.1 q.2 ∧ q.2.length = k ∧ (∀ j, j < k → W.cell? (a.add (i * k + j)) = q.2[j]?) := by
      intro i hi
      obtain ⟨cs', h1, h2⟩ := hx i hi
      rw [hk] at h1
      obtain ⟨_, hlen, hcell⟩ := World.cells?_some h1
      obtain ⟨q, hq⟩ := hread _ _ _ hlen h2
      refine ⟨(q, cs'), hq, hlen, fun j hj => ?_⟩
      have e := hcell j (by omega)
      rw [Deep.add_add] at e
      exact e
    obtain ⟨q, hq⟩ := choose_lt each
    refine ⟨some a, len, cap, fun i => (q i).1, hcs, Nat.le_trans hl hm, hl, fun i hi => ?_⟩
    obtain ⟨r1, r2, r3⟩ := hq i (by omega)
    obtain ⟨b, off, spot⟩ := a
    have hspot : spot = none := by
      obtain ⟨-, s2, s3⟩ := hq 0 (by omega)
      have e0 := s3 0 hk0
      obtain ⟨u, hu⟩ : ∃ u, (q 0).2[0]? = some u := ⟨_, List.getElem?_eq_getElem (by omega)⟩
      rw [hu, Nat.zero_mul] at e0
      simpa [Addr.add] using World.cell?_spot e0
    subst hspot
    refine ⟨b, off, (q i).2, rfl, r1, r2, fun j hj => ?_⟩
    have e := r3 j hj
    rw [add_plain] at e
    rw [← e, Nat.add_assoc]

theorem getD_map_range {α : Type} (f : Nat → α) (n i : Nat) (d : α) (hi : i < n) : ((List.range n).map f).getD i d = f i := by
  rw [List.getD_eq_getElem?_getD, List.getElem?_map, List.getElem?_range hi]
  rfl

theorem open_strs24 {fuel : Nat} {v : Value} {y : DataW H × List MemPlace} (h : DataW.trod enc Tryz.prog W 0 (fun _ => true) true fuel 24 [v] = some y) :
    ∃ (a : Option Addr) (n cap : Nat) (L : List Tx), v = .slice a n cap ∧ L.length = n ∧ n ≤ maxLen ∧ n ≤ cap ∧ Strs W a L := by
  haveI : Inhabited Tx := ⟨.empty⟩
  obtain ⟨a, n, cap, f, rfl, h1, h2, h3⟩ := open_each (α := Tx) Tryz.underlying24 cellsR9 (by decide) (fun s cs => cs = [.string s]) (fun n cs y hl ht => by
    obtain ⟨s, rfl, -⟩ := DataW.trod_string Tryz.underlying9 ht
    exact ⟨s, rfl⟩) h
  refine ⟨a, n, cap, (List.range n).map f, rfl, by simp, h1, h2, fun i hi => ?_⟩
  have hi' : i < n := by simpa using hi
  obtain ⟨b, off, cs, ha, hR, -, hc⟩ := h3 i hi'
  rw [getD_map_range f n i _ hi']
  have := hc 0 (by decide)
  rw [hR, Nat.mul_one] at this
  exact ⟨b, off, ha, this⟩

theorem open_pairs {T E : Nat} (hT : Tryz.prog.underlying T = some (.slice E)) (hk : Tryz.prog.cellsOf E = 2)
    (hread : ∀ n cs y, cs.length = 2 → DataW.trod enc Tryz.prog W 0 (fun _ => true) true n E cs = some y → ∃ q : Tx × Int, cs = [.string q.1, .int .i64 q.2])
    {fuel : Nat} {v : Value} {y : DataW H × List MemPlace} (h : DataW.trod enc Tryz.prog W 0 (fun _ => true) true fuel T [v] = some y) :
    ∃ (a : Option Addr) (n cap : Nat) (L : List (Tx × Int)), v = .slice a n cap ∧ L.length = n ∧ n ≤ maxLen ∧ n ≤ cap ∧ Nums W a L := by
  haveI : Inhabited (Tx × Int) := ⟨(.empty, 0)⟩
  obtain ⟨a, n, cap, f, rfl, h1, h2, h3⟩ := open_each (α := Tx × Int) hT hk (by decide) (fun q cs => cs = [.string q.1, .int .i64 q.2]) hread h
  refine ⟨a, n, cap, (List.range n).map f, rfl, by simp, h1, h2, fun i hi => ?_⟩
  have hi' : i < n := by simpa using hi
  obtain ⟨b, off, cs, ha, hR, -, hc⟩ := h3 i hi'
  rw [getD_map_range f n i _ hi']
  have c0 := hc 0 (by decide)
  have c1 := hc 1 (by decide)
  rw [hR] at c0 c1
  exact ⟨b, off, ha, c0, c1⟩

theorem read_number {n : Nat} {cs : List Value} {y : DataW H × List MemPlace} (hl : cs.length = 2) (h : DataW.trod enc Tryz.prog W 0 (fun _ => true) true n 112 cs = some y) : ∃ q : Tx × Int, cs = [.string q.1, .int .i64 q.2] := by
  obtain ⟨v0, v1, rfl⟩ := two_of hl
  obtain ⟨xs, k, _, _, _, hxl, hf⟩ := DataW.trod_struct Tryz.underlying112 h
  obtain ⟨y0, y1, rfl⟩ := two_of hxl
  have g0 := hf 0 _ rfl
  have g1 := hf 1 _ rfl
  simp [cellsR9, cellsR3] at g0 g1
  obtain ⟨s, e0, -⟩ := DataW.trod_string Tryz.underlying9 g0
  obtain ⟨i, e1, -⟩ := DataW.trod_int Tryz.underlying3 g1
  simp only [List.cons.injEq, and_true] at e0 e1
  subst e0 e1
  exact ⟨(s, i), rfl⟩

theorem read_said {n : Nat} {cs : List Value} {y : DataW H × List MemPlace} (hl : cs.length = 2) (h : DataW.trod enc Tryz.prog W 0 (fun _ => true) true n 106 cs = some y) : ∃ q : Tx × Int, cs = [.string q.1, .int .i64 q.2] := by
  obtain ⟨v0, v1, rfl⟩ := two_of hl
  obtain ⟨xs, k, _, _, _, hxl, hf⟩ := DataW.trod_struct Tryz.underlying106 h
  obtain ⟨y0, y1, rfl⟩ := two_of hxl
  have g0 := hf 0 _ rfl
  have g1 := hf 1 _ rfl
  simp [cellsR9, cellsR3] at g0 g1
  obtain ⟨s, e0, -⟩ := DataW.trod_string Tryz.underlying9 g0
  obtain ⟨i, e1, -⟩ := DataW.trod_int Tryz.underlying3 g1
  simp only [List.cons.injEq, and_true] at e0 e1
  subst e0 e1
  exact ⟨(s, i), rfl⟩

theorem open_swaps46 {fuel : Nat} {v : Value} {y : DataW H × List MemPlace} (h : DataW.trod enc Tryz.prog W 0 (fun _ => true) true fuel 46 [v] = some y) :
    ∃ (a : Option Addr) (n cap : Nat) (L : List (Int × Int × Int)), v = .slice a n cap ∧ L.length = n ∧ n ≤ maxLen ∧ SwapsAt W a L := by
  obtain ⟨a, n, cap, f, rfl, h1, -, h3⟩ := open_each (α := Int × Int × Int) Tryz.underlying46 cellsR96 (by decide) (fun q cs => cs = [.int .u8 q.1, .int .i64 q.2.1, .int .i64 q.2.2]) (fun n cs y hl ht => by
    obtain ⟨v0, v1, v2, rfl⟩ := three_of hl
    obtain ⟨xs, k, _, _, _, hxl, hf⟩ := DataW.trod_struct Tryz.underlying96 ht
    obtain ⟨y0, y1, y2, rfl⟩ := three_of hxl
    have g0 := hf 0 _ rfl
    have g1 := hf 1 _ rfl
    have g2 := hf 2 _ rfl
    simp [cellsR5, cellsR3] at g0 g1 g2
    obtain ⟨i0, e0, -⟩ := DataW.trod_int Tryz.underlying5 g0
    obtain ⟨i1, e1, -⟩ := DataW.trod_int Tryz.underlying3 g1
    obtain ⟨i2, e2, -⟩ := DataW.trod_int Tryz.underlying3 g2
    simp only [List.cons.injEq, and_true] at e0 e1 e2
    subst e0 e1 e2
    exact ⟨(i0, i1, i2), rfl⟩) h
  refine ⟨a, n, cap, (List.range n).map f, rfl, by simp, h1, fun i hi => ?_⟩
  have hi' : i < n := by simpa using hi
  obtain ⟨b, off, cs, ha, hR, -, hc⟩ := h3 i hi'
  rw [getD_map_range f n i _ hi']
  have c0 := hc 0 (by decide)
  have c1 := hc 1 (by decide)
  have c2 := hc 2 (by decide)
  rw [hR] at c0 c1 c2
  exact ⟨b, off, ha, c0, c1, c2⟩

theorem open_lists23 {fuel : Nat} {v : Value} {y : DataW H × List MemPlace} (h : DataW.trod enc Tryz.prog W 0 (fun _ => true) true fuel 23 [v] = some y) :
    ∃ (a : Option Addr) (n cap : Nat) (L : List (List Tx)), v = .slice a n cap ∧ L.length = n ∧ n ≤ maxLen ∧ Lists W a L := by
  obtain ⟨a, n, cap, f, rfl, h1, -, h3⟩ := open_each (α := List Tx) Tryz.underlying23 cellsR24 (by decide) (fun N cs => ∃ ai ci, cs = [.slice ai N.length ci] ∧ N.length ≤ maxLen ∧ Strs W ai N) (fun n cs y hl ht => by
    match cs, hl with
    | [v], _ =>
      obtain ⟨ai, m, ci, N, rfl, hN, hm, -, hS⟩ := open_strs24 ht
      exact ⟨N, ai, ci, by rw [hN], by rw [hN]; exact hm, hS⟩) h
  refine ⟨a, n, cap, (List.range n).map f, rfl, by simp, h1, fun i hi => ?_⟩
  have hi' : i < n := by simpa using hi
  obtain ⟨b, off, cs, ha, ⟨ai, ci, hR, hm, hS⟩, -, hc⟩ := h3 i hi'
  rw [getD_map_range f n i _ hi']
  have c0 := hc 0 (by decide)
  rw [hR, Nat.mul_one] at c0
  exact ⟨b, off, ai, ci, ha, c0, hm, hS⟩

set_option maxRecDepth 100000 in
theorem open_lex {base : Nat} {r : Reach} {v : Value} {d : DataW H} {p : List MemPlace} (hv : Value.okWide Tryz.prog W r base 26 v) (h : DataW.Trod enc Tryz.prog W 0 (fun _ => true) true 26 v d p) :
    ∃ (l : Lex) (a1 a2 a3 : Option Addr) (n1 n2 n3 c1 c2 c3 : Nat), v = .agg #[.slice a1 n1 c1, .slice a2 n2 c2, .slice a3 n3 c3] ∧ l.nums.length = n1 ∧ l.names.length = n2 ∧ l.nots.length = n3 ∧ LexAt W a1 a2 a3 l := by
  obtain ⟨x0, x1, x2, y0, y1, y2, nn, rfl, -, -, g0, g1, g2⟩ := open_agg3 Tryz.underlying26 (by kernel_rfl) cellsR26 hv h
  obtain ⟨a1, n1, c1, L1, rfl, hL1, hn1, -, hS1⟩ := open_pairs Tryz.underlying22 cellsR112 (fun _ _ _ hl ht => read_number hl ht) g0
  obtain ⟨a2, n2, c2, L2, rfl, hL2, hn2, hS2⟩ := open_lists23 g1
  obtain ⟨a3, n3, c3, L3, rfl, hL3, hn3, -, hS3⟩ := open_strs24 g2
  exact ⟨⟨L1, L2, L3⟩, a1, a2, a3, n1, n2, n3, c1, c2, c3, rfl, hL1, hL2, hL3, ⟨hS1, hS2, hS3, by show L1.length ≤ _; omega, by show L2.length ≤ _; omega, by show L3.length ≤ _; omega⟩⟩

set_option maxRecDepth 100000 in
theorem open_strs {base : Nat} {r : Reach} {v : Value} {d : DataW H} {p : List MemPlace} (hv : Value.okWide Tryz.prog W r base 24 v) (h : DataW.Trod enc Tryz.prog W 0 (fun _ => true) true 24 v d p) :
    ∃ (a : Option Addr) (n cap : Nat) (L : List Tx), v = .slice a n cap ∧ L.length = n ∧ n ≤ maxLen ∧ n ≤ cap ∧ Strs W a L := by
  obtain ⟨a0, len0, cap0, rfl⟩ := okWide_slice Tryz.underlying24 hv
  obtain ⟨fuel, hf⟩ := h
  have hf' : DataW.trod enc Tryz.prog W 0 (fun _ => true) true fuel 24 [.slice a0 len0 cap0] = some (d, p) := by simpa [Value.cells] using hf
  exact open_strs24 hf'

set_option maxRecDepth 100000 in
theorem open_swaps {base : Nat} {r : Reach} {v : Value} {d : DataW H} {p : List MemPlace} (hv : Value.okWide Tryz.prog W r base 46 v) (h : DataW.Trod enc Tryz.prog W 0 (fun _ => true) true 46 v d p) :
    ∃ (a : Option Addr) (n cap : Nat) (L : List (Int × Int × Int)), v = .slice a n cap ∧ L.length = n ∧ n ≤ maxLen ∧ SwapsAt W a L := by
  obtain ⟨a0, len0, cap0, rfl⟩ := okWide_slice Tryz.underlying46 hv
  obtain ⟨fuel, hf⟩ := h
  have hf' : DataW.trod enc Tryz.prog W 0 (fun _ => true) true fuel 46 [.slice a0 len0 cap0] = some (d, p) := by simpa [Value.cells] using hf
  exact open_swaps46 hf'

set_option maxRecDepth 100000 in
theorem open_report {base : Nat} {r : Reach} {v : Value} {d : DataW H} {p : List MemPlace} (hv : Value.okWide Tryz.prog W r base 56 v) (h : DataW.Trod enc Tryz.prog W 0 (fun _ => true) true 56 v d p) :
    ∃ (R : List (Tx × Int)) (out win : Int) (a : Option Addr) (n cap : Nat), v = .agg #[.slice a n cap, .int .i64 out, .int .i64 win] ∧ R.length = n ∧ n ≤ maxLen ∧ n ≤ cap ∧ Nums W a R := by
  obtain ⟨x0, x1, x2, y0, y1, y2, nn, rfl, -, -, g0, g1, g2⟩ := open_agg3 Tryz.underlying56 (by kernel_rfl) cellsR56 hv h
  obtain ⟨a1, n1, c1, L1, rfl, hL1, hn1, hc1, hS1⟩ := open_pairs Tryz.underlying54 cellsR106 (fun _ _ _ hl ht => read_said hl ht) g0
  obtain ⟨i1, e1, -⟩ := DataW.trod_int Tryz.underlying3 g1
  obtain ⟨i2, e2, -⟩ := DataW.trod_int Tryz.underlying3 g2
  simp only [List.cons.injEq, and_true] at e1 e2
  subst e1 e2
  exact ⟨L1, i1, i2, a1, n1, c1, rfl, hL1, hn1, hc1, hS1⟩

end

end Go.Proofs.YtbampfkmgjfofaaGreatDoor

namespace Go.Proofs.YtbampfkmgjfofaaGreatDoor
open Go.ChangeShapes Go.WideShapes Go.ChangeAt Go.RowKit Go.Joins Go.Deep

theorem Tryz.own : ownKnob Tryz.prog.godebug = none := by kernel_rfl
theorem Tryz.laidOut : laidOutB Tryz.prog = true := by kernel_rfl

/-- The list of the rows' variables. -/
abbrev laid5 : List (String × DataW Unit) := [("math/bits.deBruijn32tab", Rows.laid_math_bits_deBruijn32tab), ("math/bits.deBruijn64tab", Rows.laid_math_bits_deBruijn64tab), ("internal/strconv.uint64pow10", Rows.laid_internal_strconv_uint64pow10), ("strconv.ErrRange", Rows.laid_strconv_ErrRange), ("strconv.ErrSyntax", Rows.laid_strconv_ErrSyntax)]

theorem gPow : Tryz.prog.globalNamed "internal/strconv.uint64pow10" = some 2 := by kernel_rfl
theorem gRng : Tryz.prog.globalNamed "strconv.ErrRange" = some 1 := by kernel_rfl
theorem gSyn : Tryz.prog.globalNamed "strconv.ErrSyntax" = some 0 := by kernel_rfl

theorem iface_cells {H : Type} {enc : TypeId × Value → H} {P : Program} {w : World} {b : Nat} {sp : Nat → Bool} {fuel : Nat} {t : TypeId} {ms : Array (String × TypeId)} {cs : List Value} {y : DataW H × List MemPlace}
    (ht : P.underlying t = some (.interface ms)) (h : DataW.trod enc P w b sp false fuel t cs = some y) : ∃ x, cs = [x] ∧ (x = .nilIface ∨ ∃ te pe, x = .iface te pe) := by
  cases fuel with
  | zero => simp [DataW.trod] at h
  | succ n =>
    match cs with
    | [] => simp [DataW.trod, ht] at h
    | [x] =>
      refine ⟨x, rfl, ?_⟩
      cases x with
      | nilIface => exact .inl rfl
      | iface te pe => exact .inr ⟨te, pe, rfl⟩
      | _ => simp [DataW.trod, ht] at h
    | x :: y :: r => cases x <;> simp [DataW.trod, ht] at h

theorem tGSyn : (Tryz.prog.globals[0]?).map (·.type) = some 178 := by kernel_rfl
theorem tGRng : (Tryz.prog.globals[1]?).map (·.type) = some 178 := by kernel_rfl
theorem tGPow : (Tryz.prog.globals[2]?).map (·.type) = some 250 := by kernel_rfl
theorem powData : (Rows.laid_internal_strconv_uint64pow10 : DataW Unit) = Lib.tabData .u64 Lib.pow10Tab := by kernel_rfl
theorem cells250 : Tryz.prog.cellsOf 250 = 20 := by kernel_rfl
theorem cells226 : Tryz.prog.cellsOf 226 = 1 := by kernel_rfl

/-- What the rows' condition gives the walks. -/
theorem std_of_laid {W : World} (h : laidMetH Tryz.prog laid5 W) : Std W := by
  rw [MakeChecks.laidMetH_plain _ _ _ (by kernel_rfl)] at h
  obtain ⟨ps, ⟨g0, t0, cs0, f0, p0, q0, -, -, -, -, ⟨g1, t1, cs1, f1, p1, q1, -, -, -, -, ⟨g2, t2, cs2, f2, p2, q2, hg2, ht2, hv2, hd2, ⟨g3, t3, cs3, f3, p3, q3, hg3, ht3, hv3, hd3, ⟨g4, t4, cs4, f4, p4, q4, hg4, ht4, hv4, hd4, -⟩, -⟩, -⟩, -⟩, -⟩, -⟩ := h
  obtain rfl := Option.some.inj (gPow.symm.trans hg2)
  obtain rfl := Option.some.inj (tGPow.symm.trans ht2)
  obtain rfl := Option.some.inj (gRng.symm.trans hg3)
  obtain rfl := Option.some.inj (tGRng.symm.trans ht3)
  obtain rfl := Option.some.inj (gSyn.symm.trans hg4)
  obtain rfl := Option.some.inj (tGSyn.symm.trans ht4)
  refine ⟨?_, ?_, ?_⟩
  · obtain ⟨x, hc, hx⟩ := iface_cells Tryz.underlying178 hd4
    have h0 := World.var?_cell hg4 hv4 0
    rw [Array.eq_one_of_toList hc] at h0
    exact ⟨x, by simpa using h0, hx⟩
  · obtain ⟨x, hc, hx⟩ := iface_cells Tryz.underlying178 hd3
    have h0 := World.var?_cell hg3 hv3 0
    rw [Array.eq_one_of_toList hc] at h0
    exact ⟨x, by simpa using h0, hx⟩
  · rw [powData] at hd2
    unfold Lib.TabIs
    rw [hv2, ← Lib.cells_of_tab Tryz.underlying250 Tryz.underlying226 cells226 cells250 hd2]

/-- The door's own heap meets the condition. -/
theorem door_met (os : Os) (args : Array Value) : laidMetH Tryz.prog laid5 ((World.doorLaid Tryz.prog 400 os).forCall (fun _ _ => 0) ⟨#[], args, []⟩).memory :=
  laidMetH_of_parts3 (fuel := 8) (laidMet_of_run' 8 (by kernel_rfl) (by kernel_rfl)) (by kernel_rfl) (by kernel_rfl)

end Go.Proofs.YtbampfkmgjfofaaGreatDoor
