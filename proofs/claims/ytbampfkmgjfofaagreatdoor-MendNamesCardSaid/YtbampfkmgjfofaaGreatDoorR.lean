/- Mend: which mark may become which: the method may. Mend: the trouble between rows of marks: the method trouble. -/
import Derived.Test.YtbampfkmgjfofaaGreatDoorI
import Derived.Deep.QuietTactic
import Derived.BigQuiet
import Derived.Laws.StructEq
import Derived.Deep.OwnRows
import Derived.BigRegion
import Derived.Deep.CutRange
namespace Go.Proofs.YtbampfkmgjfofaaGreatDoor
open Go.RowKit

/-- Is the swap among them? -/
def hasSwap (S : List (Int × Int × Int)) (s : Int × Int × Int) : Bool := S.any fun x => decide (x = s)

/-- May the old mark become the new one? -/
def mayM (S : List (Int × Int × Int)) (a b : Int × Int) : Bool := decide (a = b) || (decide (a.1 = b.1) && hasSwap S (a.1, a.2, b.2))

theorem swap_eql (x y : Int × Int × Int) (w : World) : (binOp .eql 89 (.agg #[.int .u8 x.1, .int .i64 x.2.1, .int .i64 x.2.2]) (.agg #[.int .u8 y.1, .int .i64 y.2.1, .int .i64 y.2.2])).run Tryz.prog w = .ok (.bool (decide (x = y))) w := by
  have u3 := Tryz.underlying3
  have a3 := Tryz.isAgg3
  have z3 := Tryz.sizeOf3
  have u5 := Tryz.underlying5
  have a5 := Tryz.isAgg5
  have z5 := Tryz.sizeOf5
  have hS : Tryz.prog.underlying 89 = some (.struct (Tryz.prog.fieldsOf 89)) := by kernel_rfl
  have hp : Tryz.prog.stoodInHeld 89 = false := by kernel_rfl
  obtain ⟨x1, x2, x3⟩ := x
  obtain ⟨y1, y2, y3⟩ := y
  simp only
  rw [run_eql_struct, show (10000 : Nat) = 9999 + 1 from rfl, run_equalIn_agg w 9999 89 _ _ hS hp]
  simp only [Program.fieldsOf, Tryz.underlying89]
  go_simp
  by_cases h1 : x1 = y1 <;> by_cases h2 : x2 = y2 <;> by_cases h3 : x3 = y3 <;> simp [h1, h2, h3]

theorem mark_eql (x y : Int × Int) (w : World) : (binOp .eql 95 (.agg #[.int .u8 x.1, .int .i64 x.2]) (.agg #[.int .u8 y.1, .int .i64 y.2])).run Tryz.prog w = .ok (.bool (decide (x = y))) w := by
  have u3 := Tryz.underlying3
  have a3 := Tryz.isAgg3
  have z3 := Tryz.sizeOf3
  have u5 := Tryz.underlying5
  have a5 := Tryz.isAgg5
  have z5 := Tryz.sizeOf5
  have hS : Tryz.prog.underlying 95 = some (.struct (Tryz.prog.fieldsOf 95)) := by kernel_rfl
  have hp : Tryz.prog.stoodInHeld 95 = false := by kernel_rfl
  obtain ⟨x1, x2⟩ := x
  obtain ⟨y1, y2⟩ := y
  simp only
  rw [run_eql_struct, show (10000 : Nat) = 9999 + 1 from rfl, run_equalIn_agg w 9999 95 _ _ hS hp]
  simp only [Program.fieldsOf, Tryz.underlying95]
  go_simp
  by_cases h1 : x1 = y1 <;> by_cases h2 : x2 = y2 <;> simp [h1, h2]

theorem Tryz.guard89 : Tryz.prog.eqGuardType Tryz.prog.depth 89 = false := by kernel_rfl
theorem Tryz.guard95 : Tryz.prog.eqGuardType Tryz.prog.depth 95 = false := by kernel_rfl

set_option maxRecDepth 100000 in
set_option maxHeartbeats 2000000 in
theorem indexS_any (S : List (Int × Int × Int)) (k o u : Int) (n cap : Nat) (a : Option Addr) (w : World) (hL : S.length = n) (hn : n ≤ maxLen) (hS : SwapsAt w a S) :
    Calls Tryz.prog 136 #[.slice a n cap, .agg #[.int .u8 k, .int .i64 o, .int .i64 u]] w fun e w' => ∃ z : Int, e = .returned (.int .i64 z) ∧ Below w.heap.size w w' ∧ Hid (decide (0 ≤ z) = hasSwap S (k, o, u)) := by
  have hn' := hn
  unfold maxLen at hn'
  have HL := hid hL
  clear hL
  obtain ⟨W0, hW0⟩ : ∃ W0, W0 = w.alloc (.cells #[.int .u8 k, .int .i64 o, .int .i64 u] 89) := ⟨_, rfl⟩
  have hB0 : Below w.heap.size w W0 := by rw [hW0]; exact below_alloc w _
  have c0 : W0.cell? ⟨w.heap.size, 0, none⟩ = some (.int .u8 k) := by rw [hW0]; simp [go_sem]
  have c1 : W0.cell? ⟨w.heap.size, 1, none⟩ = some (.int .i64 o) := by rw [hW0]; simp [go_sem]
  have c2 : W0.cell? ⟨w.heap.size, 2, none⟩ = some (.int .i64 u) := by rw [hW0]; simp [go_sem]
  have z0 : W0.heap.size = w.heap.size + 1 := by rw [hW0]; simp
  go_enter Tryz.func136, Tryz.ntmps136
  go_wp2_with fail
  rw [← hW0]
  clear hW0
  go_loopw [8] (fun i wr => ∃ j : Nat, j ≤ n ∧ i = .int .i64 j ∧ Hid (∀ i, i < j → S.getD i (0, 0, 0) ≠ (k, o, u)) ∧ Below W0.heap.size W0 wr) (fun i _ => n - (intOf i).toNat)
  case atStart => exact ⟨0, Nat.zero_le _, rfl, hid (fun i hi => by omega), Below.refl _ _⟩
  case round =>
    obtain ⟨j, hj, rfl, HK, hB⟩ := hrel
    have hBw := below_then hB0 hB
    have d0 := cell_below hB (by omega) c0
    have d1 := cell_below hB (by omega) c1
    have d2 := cell_below hB (by omega) c2
    have gw := lt_of_cell d0
    by_cases hlt : j < n
    · obtain ⟨b, off, rfl, e0, e1, e2⟩ := hS j (by rw [HL.out]; exact hlt)
      obtain ⟨x, hx⟩ : ∃ x, S.getD j (0, 0, 0) = x := ⟨_, rfl⟩
      rw [hx] at e0 e1 e2
      have HX := hid hx
      clear hx
      obtain ⟨x1, x2, x3⟩ := x
      simp only at e0 e1 e2
      replace e0 := cell_grown hBw e0
      replace e1 := cell_grown hBw e1
      replace e2 := cell_grown hBw e2
      have gb := lt_of_cell e0
      have hjj : (j : Int) < n := by omega
      have heq := fun w => swap_eql (k, o, u) (x1, x2, x3) w
      have hgu := Tryz.guard89
      simp only at heq
      by_cases hq : ((k, o, u) : Int × Int × Int) = (x1, x2, x3)
      · have hq' : decide (((k, o, u) : Int × Int × Int) = (x1, x2, x3)) = true := by simpa using hq
        rw [hq'] at heq
        have HQ := hid hq
        clear hq hq'
        go_wp2_with fail
        go_quiet (fail)
        have hBd : Below W0.heap.size W0 (wr.drewN nq) := hB.trans ⟨rfl, rfl, rfl, Nat.le_refl _, fun _ _ => rfl⟩
        go_wp2
        go_ret
        exact ⟨(j : Int), rfl, below_then hB0 hBd, hid (by
          rw [hasSwap, List.any_eq_true.2 ⟨S.getD j (0, 0, 0), ?_, ?_⟩]
          · simp
          · rw [List.getD_eq_getElem?_getD, List.getElem?_eq_getElem (by rw [HL.out]; exact hlt), Option.getD_some]
            exact List.getElem_mem _
          · rw [HX.out, HQ.out]; simp)⟩
      · have hq' : decide (((k, o, u) : Int × Int × Int) = (x1, x2, x3)) = false := by simpa using hq
        rw [hq'] at heq
        have HQ := hid hq
        clear hq hq'
        go_wp2_with fail
        go_quiet (fail)
        have hBd : Below W0.heap.size W0 (wr.drewN nq) := hB.trans ⟨rfl, rfl, rfl, Nat.le_refl _, fun _ _ => rfl⟩
        go_wp2
        go_roundw
        case rel => exact ⟨j + 1, by omega, by go_num, hid (fun i hi => by
          by_cases e : i = j
          · subst e
            rw [HX.out]
            exact fun h => HQ.out h.symm
          · exact HK.out i (by omega)), hBd⟩
        case measure => simp [intOf]; omega
    · have hjn : j = n := by omega
      subst hjn
      go_wp2
      go_ret
      exact ⟨-1, rfl, hBw, hid (by
        have : hasSwap S (k, o, u) = false := by
          unfold hasSwap
          rw [List.any_eq_false]
          intro x hx
          obtain ⟨i, hi, rfl⟩ := List.mem_iff_getElem.1 hx
          have := HK.out i (by rw [← HL.out]; exact hi)
          rw [List.getD_eq_getElem?_getD, List.getElem?_eq_getElem hi, Option.getD_some] at this
          simpa using this
        rw [this]; rfl)⟩

set_option maxHeartbeats 1000000 in
theorem containsS_any (S : List (Int × Int × Int)) (k o u : Int) (n cap : Nat) (a : Option Addr) (w : World) (hL : S.length = n) (hn : n ≤ maxLen) (hS : SwapsAt w a S) :
    Calls Tryz.prog 108 #[.slice a n cap, .agg #[.int .u8 k, .int .i64 o, .int .i64 u]] w fun e w' => e = .returned (.bool (hasSwap S (k, o, u))) ∧ Below w.heap.size w w' := by
  have hB := below_alloc w (.cells #[.int .u8 k, .int .i64 o, .int .i64 u] 89)
  have hcon := indexS_any S k o u n cap a _ hL hn (hS.grown hB)
  clear hL
  go_enter Tryz.func108, Tryz.ntmps108
  go_wp2_with fail
  refine hcon.mono ?_
  rintro e w' ⟨z, rfl, hb, hz⟩
  have HZ := hid hz.out
  clear hz hcon
  go_wp2
  go_ret
  exact ⟨by rw [← HZ.out]; rfl, below_then hB hb⟩

set_option maxRecDepth 100000 in
set_option maxHeartbeats 2000000 in
theorem may_any (S : List (Int × Int × Int)) (mv : Option Nat) (n cap : Nat) (a : Option Addr) (x y : Int × Int) (w : World) (hL : S.length = n) (hn : n ≤ maxLen) (hS : SwapsAt w a S) :
    Calls Tryz.prog 75 #[.agg #[.map mv, .slice a n cap], .agg #[.int .u8 x.1, .int .i64 x.2], .agg #[.int .u8 y.1, .int .i64 y.2]] w fun e w' => e = .returned (.bool (mayM S x y)) ∧ Below w.heap.size w w' := by
  obtain ⟨z, hz⟩ : ∃ z, mayM S x y = z := ⟨_, rfl⟩
  rw [hz]
  have HZ := hid hz
  clear hz
  obtain ⟨x1, x2⟩ := x
  obtain ⟨y1, y2⟩ := y
  simp only
  obtain ⟨W1, hW1⟩ : ∃ W1, W1 = ((w.alloc (.cells #[.map mv, .slice a n cap] 116)).alloc (.cells #[.int .u8 x1, .int .i64 x2] 95)).alloc (.cells #[.int .u8 y1, .int .i64 y2] 95) := ⟨_, rfl⟩
  have hB1 : Below w.heap.size w W1 := by rw [hW1]; exact (((Below.refl _ w).alloc (Nat.le_refl _) _).alloc (by simp) _).alloc (by simp; omega) _
  have heq := fun w => mark_eql (x1, x2) (y1, y2) w
  simp only at heq
  have hgu := Tryz.guard95
  by_cases h1 : ((x1, x2) : Int × Int) = (y1, y2)
  · have h1' : decide (((x1, x2) : Int × Int) = (y1, y2)) = true := by simpa using h1
    rw [h1'] at heq
    have hzt : z = true := by rw [← HZ.out, mayM, h1']; rfl
    clear h1 h1' HZ
    go_enter Tryz.func75, Tryz.ntmps75
    go_wp2
    go_ret
    exact ⟨by rw [hzt]; rfl, by rw [← hW1]; exact hB1⟩
  · have h1' : decide (((x1, x2) : Int × Int) = (y1, y2)) = false := by simpa using h1
    rw [h1'] at heq
    by_cases h2 : x1 = y1
    · subst h2
      have hzt : hasSwap S (x1, x2, y2) = z := by rw [← HZ.out, mayM, h1']; simp
      have hcon := containsS_any S x1 x2 y2 n cap a W1 hL hn (hS.grown hB1)
      rw [hzt] at hcon
      clear h1 h1' HZ hzt hL
      go_enter Tryz.func75, Tryz.ntmps75
      go_wp2_with fail
      rw [← hW1]
      clear hW1
      refine hcon.mono ?_
      rintro e w' ⟨rfl, hb⟩
      go_wp2
      go_ret
      exact ⟨rfl, below_then hB1 hb⟩
    · have hzt : z = false := by rw [← HZ.out, mayM, h1']; simp [h2]
      have h2' : (x1 == y1) = false := by simpa using h2
      clear h1 h1' HZ
      go_enter Tryz.func75, Tryz.ntmps75
      go_wp2
      go_ret
      exact ⟨by rw [hzt]; simp_all, by rw [← hW1]; exact hB1⟩

end Go.Proofs.YtbampfkmgjfofaaGreatDoor

namespace Go.Proofs.YtbampfkmgjfofaaGreatDoor
open Go.RowKit

/-- The trouble between the first i old marks and the first k new ones. -/
def tabM (S : List (Int × Int × Int)) (a b : List (Int × Int)) : Nat → Nat → Int
  | 0, k => (k : Int)
  | i + 1, 0 => ((i + 1 : Nat) : Int)
  | i + 1, k + 1 => min (min (tabM S a b i k + if mayM S (a.getD i (0, 0)) (b.getD k (0, 0)) then 0 else 1) (tabM S a b i (k + 1) + 1)) (tabM S a b (i + 1) k + 1)

def troubleM (S : List (Int × Int × Int)) (a b : List (Int × Int)) : Int := tabM S a b a.length b.length

theorem tabM_bd (S : List (Int × Int × Int)) (a b : List (Int × Int)) : ∀ i k, 0 ≤ tabM S a b i k ∧ tabM S a b i k ≤ i + k := by
  intro i
  induction i with
  | zero => intro k; simp [tabM]
  | succ i ih =>
    intro k
    induction k with
    | zero => simp [tabM]; omega
    | succ k ihk =>
      have h1 := ih k
      have h2 := ih (k + 1)
      simp only [tabM]
      split <;> omega

theorem Tryz.info3 : (Tryz.prog.info? 3).map (fun i => (i.zero, i.size, i.bytes)) = some (some (.int .i64 0), 1, 8) := by kernel_rfl

/-- The two rows of a table, in memory. -/
structure Two (bt r0 r1 m : Nat) (f g : Nat → Int) (B0 : Nat) (W0 W : World) (v0 v1 : Value) : Prop where
  box : Box2 W bt 149 v0 v1
  row0 : W.rowIs r0 3 (m + 1) (fun k => .int .i64 (f k))
  row1 : W.rowIs r1 3 (m + 1) (fun k => .int .i64 (g k))
  d01 : r0 ≠ r1
  db0 : bt ≠ r0
  db1 : bt ≠ r1
  lb : B0 ≤ bt
  l0 : B0 ≤ r0
  l1 : B0 ≤ r1
  below : Below B0 W0 W

theorem Two.swap {bt r0 r1 m : Nat} {f g : Nat → Int} {B0 : Nat} {W0 W : World} {v0 v1 : Value} (h : Two bt r0 r1 m f g B0 W0 W v0 v1) : Two bt r1 r0 m g f B0 W0 W v0 v1 :=
  ⟨h.box, h.row1, h.row0, Ne.symm h.d01, h.db1, h.db0, h.lb, h.l1, h.l0, h.below⟩

theorem three_alloc (W0 : World) (a b c : Obj) (s : Nat) (hs : W0.heap.size = s) (X : World) (hX : X = (((W0.alloc a).alloc b).alloc c).drew) :
    X.heap[s]? = some a ∧ X.heap[s + 1]? = some b ∧ X.heap[s + 2]? = some c ∧ Below W0.heap.size W0 X := by
  subst hs
  subst hX
  have h0 : (W0.alloc a).heap[W0.heap.size]? = some a := World.alloc_heap_new W0 a
  have h1 : ((W0.alloc a).alloc b).heap[W0.heap.size + 1]? = some b := by have := World.alloc_heap_new (W0.alloc a) b; rwa [World.size_alloc] at this
  have h2 : (((W0.alloc a).alloc b).alloc c).heap[W0.heap.size + 2]? = some c := by have := World.alloc_heap_new ((W0.alloc a).alloc b) c; rwa [World.size_alloc, World.size_alloc] at this
  refine ⟨?_, ?_, h2, ?_⟩
  · exact (Below.heap_alloc _ _ _ (by simp; omega)).trans ((Below.heap_alloc _ _ _ (by simp)).trans h0)
  · exact (Below.heap_alloc _ _ _ (by simp)).trans h1
  · exact ((((Below.refl _ W0).alloc (Nat.le_refl _) a).alloc (by simp) b).alloc (by simp; omega) c).trans ⟨rfl, rfl, rfl, Nat.le_refl _, fun _ _ => rfl⟩

theorem row_made {X : World} {r n : Nat} {t : TypeId} {z : Value} (h : X.heap[r]? = some (.cells (madeCells #[z] n) t)) : X.rowIs r t n (fun _ => z) :=
  ⟨_, h, size_madeCells _ _, fun i hi => by simp [madeCells, hi, Nat.mod_one]⟩

theorem Two.set0 {bt r0 r1 m : Nat} {f g : Nat → Int} {B0 : Nat} {W0 W : World} {v0 v1 : Value} (h : Two bt r0 r1 m f g B0 W0 W v0 v1) (k : Nat) (v : Int) : Two bt r0 r1 m (fun j => if j = k then v else f j) g B0 W0 (W.setCell ⟨r0, k, none⟩ (.int .i64 v)) v0 v1 :=
  ⟨h.box.other h.db0 k _, (h.row0.set k (.int .i64 v)).congr (fun i _ => by split <;> rfl), h.row1.setOther (a := ⟨r0, k, none⟩) (Ne.symm h.d01) _, h.d01, h.db0, h.db1, h.lb, h.l0, h.l1, h.below.setCell (p := ⟨r0, k, none⟩) h.l0 _⟩

theorem Two.set1 {bt r0 r1 m : Nat} {f g : Nat → Int} {B0 : Nat} {W0 W : World} {v0 v1 : Value} (h : Two bt r0 r1 m f g B0 W0 W v0 v1) (k : Nat) (v : Int) : Two bt r0 r1 m f (fun j => if j = k then v else g j) B0 W0 (W.setCell ⟨r1, k, none⟩ (.int .i64 v)) v0 v1 :=
  ⟨h.box.other h.db1 k _, h.row0.setOther (a := ⟨r1, k, none⟩) h.d01 _, (h.row1.set k (.int .i64 v)).congr (fun i _ => by split <;> rfl), h.d01, h.db0, h.db1, h.lb, h.l0, h.l1, h.below.setCell (p := ⟨r1, k, none⟩) h.l1 _⟩

theorem Two.over {bt r0 r1 m : Nat} {f g : Nat → Int} {B0 : Nat} {W0 W W' : World} {v0 v1 : Value} (h : Two bt r0 r1 m f g B0 W0 W v0 v1) (hb : Below W.heap.size W W') (hB : B0 ≤ W.heap.size) : Two bt r0 r1 m f g B0 W0 W' v0 v1 :=
  ⟨(hb.block _ h.box.lt).trans h.box, h.row0.of_block (hb.block _ h.row0.lt), h.row1.of_block (hb.block _ h.row1.lt), h.d01, h.db0, h.db1, h.lb, h.l0, h.l1, h.below.trans (hb.mono hB)⟩

theorem two_new0 (W0 X : World) (s m : Nat) (hs : W0.heap.size = s) (hX : X = (((W0.alloc (.cells #[.slice (some ⟨s + 1, 0, none⟩) (m + 1) (m + 1), .slice (some ⟨s + 2, 0, none⟩) (m + 1) (m + 1)] 149)).alloc (.cells (madeCells #[.int .i64 0] (m + 1)) 3)).alloc (.cells (madeCells #[.int .i64 0] (m + 1)) 3)).drew) : Two (s + 0) (s + 1) (s + 2) m (fun _ => 0) (fun _ => 0) W0.heap.size W0 X (.slice (some ⟨s + 1, 0, none⟩) (m + 1) (m + 1)) (.slice (some ⟨s + 2, 0, none⟩) (m + 1) (m + 1)) := by
  obtain ⟨h0, h1, h2, hb⟩ := three_alloc W0 _ _ _ s hs X hX
  exact ⟨h0, row_made h1, row_made h2, by omega, by omega, by omega, by omega, by omega, by omega, hb⟩

theorem two_new1 (W0 X : World) (s m : Nat) (hs : W0.heap.size = s) (hX : X = (((W0.alloc (.cells #[.slice (some ⟨s + 2, 0, none⟩) (m + 1) (m + 1), .slice (some ⟨s + 1, 0, none⟩) (m + 1) (m + 1)] 149)).alloc (.cells (madeCells #[.int .i64 0] (m + 1)) 3)).alloc (.cells (madeCells #[.int .i64 0] (m + 1)) 3)).drew) : Two (s + 0) (s + 2) (s + 1) m (fun _ => 0) (fun _ => 0) W0.heap.size W0 X (.slice (some ⟨s + 2, 0, none⟩) (m + 1) (m + 1)) (.slice (some ⟨s + 1, 0, none⟩) (m + 1) (m + 1)) := by
  obtain ⟨h0, h1, h2, hb⟩ := three_alloc W0 _ _ _ s hs X hX
  exact ⟨h0, row_made h2, row_made h1, by omega, by omega, by omega, by omega, by omega, by omega, hb⟩

theorem two_new2 (W0 X : World) (s m : Nat) (hs : W0.heap.size = s) (hX : X = (((W0.alloc (.cells (madeCells #[.int .i64 0] (m + 1)) 3)).alloc (.cells #[.slice (some ⟨s + 0, 0, none⟩) (m + 1) (m + 1), .slice (some ⟨s + 2, 0, none⟩) (m + 1) (m + 1)] 149)).alloc (.cells (madeCells #[.int .i64 0] (m + 1)) 3)).drew) : Two (s + 1) (s + 0) (s + 2) m (fun _ => 0) (fun _ => 0) W0.heap.size W0 X (.slice (some ⟨s + 0, 0, none⟩) (m + 1) (m + 1)) (.slice (some ⟨s + 2, 0, none⟩) (m + 1) (m + 1)) := by
  obtain ⟨h0, h1, h2, hb⟩ := three_alloc W0 _ _ _ s hs X hX
  exact ⟨h1, row_made h0, row_made h2, by omega, by omega, by omega, by omega, by omega, by omega, hb⟩

theorem two_new3 (W0 X : World) (s m : Nat) (hs : W0.heap.size = s) (hX : X = (((W0.alloc (.cells (madeCells #[.int .i64 0] (m + 1)) 3)).alloc (.cells #[.slice (some ⟨s + 2, 0, none⟩) (m + 1) (m + 1), .slice (some ⟨s + 0, 0, none⟩) (m + 1) (m + 1)] 149)).alloc (.cells (madeCells #[.int .i64 0] (m + 1)) 3)).drew) : Two (s + 1) (s + 2) (s + 0) m (fun _ => 0) (fun _ => 0) W0.heap.size W0 X (.slice (some ⟨s + 2, 0, none⟩) (m + 1) (m + 1)) (.slice (some ⟨s + 0, 0, none⟩) (m + 1) (m + 1)) := by
  obtain ⟨h0, h1, h2, hb⟩ := three_alloc W0 _ _ _ s hs X hX
  exact ⟨h1, row_made h2, row_made h0, by omega, by omega, by omega, by omega, by omega, by omega, hb⟩

theorem two_new4 (W0 X : World) (s m : Nat) (hs : W0.heap.size = s) (hX : X = (((W0.alloc (.cells (madeCells #[.int .i64 0] (m + 1)) 3)).alloc (.cells (madeCells #[.int .i64 0] (m + 1)) 3)).alloc (.cells #[.slice (some ⟨s + 0, 0, none⟩) (m + 1) (m + 1), .slice (some ⟨s + 1, 0, none⟩) (m + 1) (m + 1)] 149)).drew) : Two (s + 2) (s + 0) (s + 1) m (fun _ => 0) (fun _ => 0) W0.heap.size W0 X (.slice (some ⟨s + 0, 0, none⟩) (m + 1) (m + 1)) (.slice (some ⟨s + 1, 0, none⟩) (m + 1) (m + 1)) := by
  obtain ⟨h0, h1, h2, hb⟩ := three_alloc W0 _ _ _ s hs X hX
  exact ⟨h2, row_made h0, row_made h1, by omega, by omega, by omega, by omega, by omega, by omega, hb⟩

theorem two_new5 (W0 X : World) (s m : Nat) (hs : W0.heap.size = s) (hX : X = (((W0.alloc (.cells (madeCells #[.int .i64 0] (m + 1)) 3)).alloc (.cells (madeCells #[.int .i64 0] (m + 1)) 3)).alloc (.cells #[.slice (some ⟨s + 1, 0, none⟩) (m + 1) (m + 1), .slice (some ⟨s + 0, 0, none⟩) (m + 1) (m + 1)] 149)).drew) : Two (s + 2) (s + 1) (s + 0) m (fun _ => 0) (fun _ => 0) W0.heap.size W0 X (.slice (some ⟨s + 1, 0, none⟩) (m + 1) (m + 1)) (.slice (some ⟨s + 0, 0, none⟩) (m + 1) (m + 1)) := by
  obtain ⟨h0, h1, h2, hb⟩ := three_alloc W0 _ _ _ s hs X hX
  exact ⟨h2, row_made h1, row_made h0, by omega, by omega, by omega, by omega, by omega, by omega, hb⟩

set_option maxRecDepth 100000 in
set_option maxHeartbeats 2000000 in
theorem trouble_any (S : List (Int × Int × Int)) (mv : Option Nat) (sn sc : Nat) (sa : Option Addr) (A B : List (Int × Int)) (n m nc mc : Nat) (aa ba : Option Addr) (w : World) (hs : S.length = sn) (hsn : sn ≤ maxLen) (hS : SwapsAt w sa S)
    (hA : A.length = n) (hn : n ≤ 100) (hAm : Marks w aa A) (hB : B.length = m) (hm : m ≤ 100) (hBm : Marks w ba B) :
    Calls Tryz.prog 57 #[.agg #[.map mv, .slice sa sn sc], .slice aa n nc, .slice ba m mc] w fun e w' => e = .returned (.int .i64 (troubleM S A B)) ∧ Below w.heap.size w w' := by
  have HS := hid hs; have HA := hid hA; have HB := hid hB
  clear hs hA hB
  have hmk : ∀ W : World, (Instr.makeSlice 71 (.int .i64 ((m : Int) + 1)) (.int .i64 ((m : Int) + 1))).run Tryz.prog W = .ok (.slice (some ⟨W.heap.size, 0, none⟩) (m + 1) (m + 1)) (W.alloc (.cells (madeCells #[.int .i64 0] (m + 1)) 3)) := fun W =>
    run_make_row' (P := Tryz.prog) 71 3 (.int .i64 0) 8 Tryz.underlying71 Tryz.info3 rfl .i64 .i64 (m + 1) (by omega) (by omega) W
  have hm1 : (m : Int) + 1 ≤ 101 := by omega
  go_enter Tryz.func57, Tryz.ntmps57
  go_wp2_with fail
  obtain ⟨W0, hW0⟩ : ∃ W0, W0 = w.alloc (.cells #[.map mv, .slice sa sn sc] 116) := ⟨_, rfl⟩
  have hB0 : Below w.heap.size w W0 := by rw [hW0]; exact below_alloc w _
  have c0 : W0.cell? ⟨w.heap.size, 0, none⟩ = some (.map mv) := by rw [hW0]; simp [go_sem]
  have c1 : W0.cell? ⟨w.heap.size, 1, none⟩ = some (.slice sa sn sc) := by rw [hW0]; simp [go_sem]
  have z0 : W0.heap.size = w.heap.size + 1 := by rw [hW0]; simp
  rw [← hW0]
  clear hW0
  go_cut [7] from 16 to 24 (fun p wc => ∃ bt r0 r1, p = .pointer (some ⟨bt, 0, none⟩) ∧ Two bt r0 r1 m (fun _ => 0) (fun _ => 0) W0.heap.size W0 wc (.slice (some ⟨r0, 0, none⟩) (m + 1) (m + 1)) (.slice (some ⟨r1, 0, none⟩) (m + 1) (m + 1)))
  case first =>
    go_region
    all_goals
      go_wp2_with fail
      go_meet
      case rel =>
        first
          | exact ⟨_, _, _, rfl, two_new0 W0 _ (w.heap.size + 1) m z0 rfl⟩
          | exact ⟨_, _, _, rfl, two_new1 W0 _ (w.heap.size + 1) m z0 rfl⟩
          | exact ⟨_, _, _, rfl, two_new2 W0 _ (w.heap.size + 1) m z0 rfl⟩
          | exact ⟨_, _, _, rfl, two_new3 W0 _ (w.heap.size + 1) m z0 rfl⟩
          | exact ⟨_, _, _, rfl, two_new4 W0 _ (w.heap.size + 1) m z0 rfl⟩
          | exact ⟨_, _, _, rfl, two_new5 W0 _ (w.heap.size + 1) m z0 rfl⟩
  case rest =>
    obtain ⟨bt, r0, r1, rfl, hT⟩ := hcut
    have g0 := hT.box.c0
    have gl := hT.box.lt
    go_wp2_with fail
    go_loopw [28] (fun i wr => ∃ (k : Nat) (f : Nat → Int), k ≤ m + 1 ∧ i = .int .i64 k ∧ Two bt r0 r1 m f (fun _ => 0) W0.heap.size W0 wr (.slice (some ⟨r0, 0, none⟩) (m + 1) (m + 1)) (.slice (some ⟨r1, 0, none⟩) (m + 1) (m + 1)) ∧ Hid (∀ j, j < k → f j = j)) (fun i _ => m + 1 - (intOf i).toNat)
    case atStart => exact ⟨0, _, by omega, rfl, hT, hid (fun j h => by omega)⟩
    clear hT g0 gl
    clear wc
    case round =>
      obtain ⟨k, f, hk, rfl, hT, HF⟩ := hrel
      have g0 := hT.box.c0
      have gl := hT.box.lt
      have r0l := hT.row0.lt
      by_cases hlt : k < m + 1
      · have hlt' : (k : Int) < (m : Int) + 1 := by omega
        have q0 := hT.row0.cell hlt
        have q1 := hT.row0.frozen k
        go_wp2
        go_roundw
        case rel => exact ⟨k + 1, _, by omega, by go_num, hT.set0 k k, hid (fun j hj => by
          by_cases e : j = k
          · simp [e]
          · simp only [e, if_false]; exact HF.out j (by omega))⟩
        case measure => simp [intOf]; omega
      · have hkm : k = m + 1 := by omega
        subst hkm
        have hlt' : ¬ ((m + 1 : Nat) : Int) < (m : Int) + 1 := by omega
        go_wp2_with fail
        go_loopw [39] (fun i wr => ∃ (i' : Nat) (f g : Nat → Int), i' ≤ n ∧ i = .int .i64 i' ∧ Two bt r0 r1 m f g W0.heap.size W0 wr (.slice (some ⟨r0, 0, none⟩) (m + 1) (m + 1)) (.slice (some ⟨r1, 0, none⟩) (m + 1) (m + 1)) ∧ Hid (∀ j, j ≤ m → (if i' % 2 = 0 then f else g) j = tabM S A B i' j)) (fun i _ => n - (intOf i).toNat)
        case atStart => exact ⟨0, f, _, by omega, rfl, hT, hid (fun j hj => by simp [tabM]; exact HF.out j (by omega))⟩
        clear hT g0 gl r0l HF hlt'
        case round =>
          obtain ⟨i, f, g, hi, rfl, hT, HF⟩ := hrel
          have hBw := hT.below
          have hz := hBw.size
          by_cases hlt : i < n
          · have hlt' : (i : Int) < (n : Int) := by omega
            obtain ⟨ab, off, ea, e1, e2⟩ := hAm i (by rw [HA.out]; exact hlt)
            obtain ⟨x, hx⟩ : ∃ x, A.getD i (0, 0) = x := ⟨_, rfl⟩
            rw [hx] at e1 e2
            have HX := hid hx
            clear hx
            obtain ⟨x1, x2⟩ := x
            simp only at e1 e2
            replace e1 := cell_grown (below_then hB0 hBw) e1
            replace e2 := cell_grown (below_then hB0 hBw) e2
            have ga := lt_of_cell e1
            subst ea
            have rl0 := hT.row0.lt
            have rl1 := hT.row1.lt
            have ke := Box2.new wr 95 (.int .u8 x1) (.int .i64 x2)
            obtain ⟨fb, hfb⟩ : ∃ fb, wr.heap.size = fb := ⟨_, rfl⟩
            obtain ⟨X1, hX1⟩ : ∃ X, X = wr.alloc (.cells #[.int .u8 x1, .int .i64 x2] 95) := ⟨_, rfl⟩
            have hT1 : Two bt r0 r1 m f g W0.heap.size W0 X1 _ _ := hT.over (by rw [hX1]; exact below_alloc _ (.cells #[.int .u8 x1, .int .i64 x2] 95)) hz
            have hz1 : W0.heap.size ≤ X1.heap.size := hT1.below.size
            rw [← hX1, hfb] at ke
            rcases Nat.mod_two_eq_zero_or_one i with hp | hp
            · have t1 : (i : Int).tmod 2 = 0 := by rw [Int.tmod_eq_emod_of_nonneg (by omega)]; omega
              have t2 : ((i : Int) + 1).tmod 2 = 1 := by rw [Int.tmod_eq_emod_of_nonneg (by omega)]; omega
              have g0 := hT1.box.c0
              have g1 := hT1.box.c1
              have gl := hT1.box.lt
              go_wp2_with fail
              rw [← hX1]
              clear hX1
              go_quiet (fail)
              have hB2 : Below X1.heap.size X1 (X1.drewN nq) := ⟨rfl, rfl, rfl, Nat.le_refl _, fun _ _ => rfl⟩
              have hT2 := hT1.over hB2 hz1
              have ke2 : Box2 (X1.drewN nq) fb 95 (.int .u8 x1) (.int .i64 x2) := ke
              obtain ⟨X2, hX2⟩ : ∃ X, X = X1.drewN nq := ⟨_, rfl⟩
              rw [← hX2] at hT2 ke2 ⊢
              have hz2 : W0.heap.size ≤ X2.heap.size := hT2.below.size
              clear hX2 hB2 ke hT1 hT g0 g1 gl hz1
              clear X1
              have q0 := hT2.row1.cell (i := 0) (by omega)
              have q1 := hT2.row1.frozen 0
              have ql := hT2.row1.lt
              have hT3 := hT2.set1 0 ((i : Int) + 1)
              have ke3 := ke2.other (B' := r1) (by omega) 0 (.int .i64 ((i : Int) + 1))
              go_wp2_with fail
              obtain ⟨X3, hX3⟩ : ∃ X, X = X2.setCell ⟨r1, 0, none⟩ (.int .i64 ((i : Int) + 1)) := ⟨_, rfl⟩
              rw [← hX3] at hT3 ke3 ⊢
              clear hX3 hT2 ke2 q0 q1 ql hz2
              clear X2
              go_loopw [59] (fun i' wi => ∃ (k : Nat) (G : Nat → Int), k ≤ m ∧ i' = .int .i64 k ∧ Two bt r0 r1 m f G W0.heap.size W0 wi (.slice (some ⟨r0, 0, none⟩) (m + 1) (m + 1)) (.slice (some ⟨r1, 0, none⟩) (m + 1) (m + 1)) ∧ Box2 wi fb 95 (.int .u8 x1) (.int .i64 x2) ∧ Hid (∀ j, j ≤ k → G j = tabM S A B (i + 1) j)) (fun i _ => m - (intOf i).toNat)
              case atStart => exact ⟨0, _, by omega, rfl, hT3, ke3, hid (fun j hj => by
                have : j = 0 := by omega
                subst this
                simp [tabM])⟩
              clear hT3 ke3
              clear X3
              case round =>
                obtain ⟨k, G, hk, rfl, hT, ke, HG⟩ := hrel
                have hBi := hT.below
                have hzi := hBi.size
                have hBwi := below_then hB0 hBi
                by_cases hlk : k < m
                · have hlk' : (k : Int) < (m : Int) := by omega
                  obtain ⟨bb, boff, eb, e1, e2⟩ := hBm k (by rw [HB.out]; exact hlk)
                  obtain ⟨y, hy⟩ : ∃ y, B.getD k (0, 0) = y := ⟨_, rfl⟩
                  rw [hy] at e1 e2
                  have HY := hid hy
                  clear hy
                  obtain ⟨y1, y2⟩ := y
                  simp only at e1 e2
                  replace e1 := cell_grown hBwi e1
                  replace e2 := cell_grown hBwi e2
                  have gb := lt_of_cell e1
                  subst eb
                  have q0 := hT.row0.cell (i := k) (by omega)
                  have ql := hT.row0.lt
                  have kc0 := ke.c0
                  have kc1 := ke.c1
                  have kl := ke.lt
                  have d0 := cell_below hBi (by omega) c0
                  have d1 := cell_below hBi (by omega) c1
                  have dl := lt_of_cell d0
                  have hk101 : (k : Int) ≤ 100 := by omega
                  have HF0 := hid (HF.out k (by omega))
                  have HF1 := hid (HF.out (k + 1) (by omega))
                  have HG0 := hid (HG.out k (by omega))
                  have b0 := tabM_bd S A B i k
                  have b1 := tabM_bd S A B i (k + 1)
                  have b2 := tabM_bd S A B (i + 1) k
                  have hpf : (if i % 2 = 0 then f else g) = f := by simp [hp]
                  rw [hpf] at HF0 HF1
                  have hnx : tabM S A B (i + 1) (k + 1) = min (min (f k + if mayM S (x1, x2) (y1, y2) then 0 else 1) (f (k + 1) + 1)) (G k + 1) := by
                    rw [HF0.out, HF1.out, HG0.out, ← HX.out, ← HY.out]
                    simp only [tabM]
                  rw [← HF0.out] at b0
                  rw [← HF1.out] at b1
                  rw [← HG0.out] at b2
                  clear hpf
                  have HNX := hid hnx
                  clear hnx
                  have hbd0 : 0 ≤ f k ∧ f k ≤ 200 := by omega
                  have hbd1 : 0 ≤ f (k + 1) ∧ f (k + 1) ≤ 200 := by omega
                  have hbd2 : 0 ≤ G k ∧ G k ≤ 201 := by omega
                  clear b0 b1 b2
                  have hBa := hBwi.alloc hBwi.size (.cells #[.int .u8 y1, .int .i64 y2] 95)
                  have hTa := hT.over (below_alloc wr (.cells #[.int .u8 y1, .int .i64 y2] 95)) hzi
                  have kea := ke.alloc (.cells #[.int .u8 y1, .int .i64 y2] 95)
                  go_wp2_with fail
                  refine (may_any S mv sn sc sa (x1, x2) (y1, y2) _ HS.out hsn (hS.grown hBa)).mono ?_
                  rintro e w4 ⟨rfl, hb4⟩
                  have hT4 := hTa.over hb4 (by simp; omega)
                  have ke4 : Box2 w4 fb 95 (.int .u8 x1) (.int .i64 x2) := (hb4.block _ kea.lt).trans kea
                  clear hTa kea hT ke q0 ql kc0 kc1 kl d0 d1 dl
                  have q0 := hT4.row0.cell (i := k + 1) (by omega)
                  have q1 := hT4.row1.cell (i := k) (by omega)
                  have q2 := hT4.row1.cell (i := k + 1) (by omega)
                  have q3 := hT4.row1.frozen (k + 1)
                  have l0 := hT4.row0.lt
                  have l1 := hT4.row1.lt
                  have dne := hT4.d01
                  generalize hp0 : f k = p at hbd0 HNX ⊢
                  generalize hp1 : f (k + 1) = q at hbd1 HNX q0
                  generalize hp2 : G k = r at hbd2 HNX q1
                  cases hmay : mayM S (x1, x2) (y1, y2)
                  · have HNX2 : Hid (tabM S A B (i + 1) (k + 1) = min (min (p + 1) (q + 1)) (r + 1)) := hid (by rw [HNX.out, hmay]; rfl)
                    clear HNX hmay
                    go_wp2_with fail
                    go_region
                    go_wp2
                    go_roundw
                    case rel => exact ⟨k + 1, _, by omega, by go_num, (hT4.set1 (k + 1) (if r + 1 < if q < p then q + 1 else p + 1 then r + 1 else if q < p then q + 1 else p + 1)).over ⟨rfl, rfl, rfl, Nat.le_refl _, fun _ _ => rfl⟩ (Nat.le_trans hT4.below.size (KeepsWalks.setCell _ _ _).size), ke4.other (B' := r1) (by omega) _ _, hid (fun j hj => by
                      by_cases e : j = k + 1
                      · subst e
                        simp only [if_true]
                        rw [HNX2.out]
                        split <;> split <;> omega
                      · simp only [e, if_false]
                        exact HG.out j (by omega))⟩
                    case measure => simp [intOf]; omega
                  · have HNX2 : Hid (tabM S A B (i + 1) (k + 1) = min (min p (q + 1)) (r + 1)) := hid (by rw [HNX.out, hmay]; simp)
                    clear HNX hmay
                    go_wp2_with fail
                    go_region
                    go_wp2
                    go_roundw
                    case rel => exact ⟨k + 1, _, by omega, by go_num, (hT4.set1 (k + 1) (if r + 1 < if q + 1 < p then q + 1 else p then r + 1 else if q + 1 < p then q + 1 else p)).over ⟨rfl, rfl, rfl, Nat.le_refl _, fun _ _ => rfl⟩ (Nat.le_trans hT4.below.size (KeepsWalks.setCell _ _ _).size), ke4.other (B' := r1) (by omega) _ _, hid (fun j hj => by
                      by_cases e : j = k + 1
                      · subst e
                        simp only [if_true]
                        rw [HNX2.out]
                        split <;> split <;> omega
                      · simp only [e, if_false]
                        exact HG.out j (by omega))⟩
                    case measure => simp [intOf]; omega
                · have hkm : k = m := by omega
                  subst hkm
                  go_wp2
                  go_roundw
                  case rel => exact ⟨i + 1, f, G, by omega, by go_num, hT, hid (fun j hj => by
                    have e2 : ¬ (i + 1) % 2 = 0 := by omega
                    rw [if_neg e2]
                    exact HG.out j hj)⟩
                  case measure => simp [intOf]; omega
            · have t1 : (i : Int).tmod 2 = 1 := by rw [Int.tmod_eq_emod_of_nonneg (by omega)]; omega
              have t2 : ((i : Int) + 1).tmod 2 = 0 := by rw [Int.tmod_eq_emod_of_nonneg (by omega)]; omega
              have hT1s := hT1.swap
              have g0 := hT1s.box.c0
              have g1 := hT1s.box.c1
              have gl := hT1s.box.lt
              go_wp2_with fail
              rw [← hX1]
              clear hX1
              go_quiet (fail)
              have hB2 : Below X1.heap.size X1 (X1.drewN nq) := ⟨rfl, rfl, rfl, Nat.le_refl _, fun _ _ => rfl⟩
              have hT2 := hT1s.over hB2 hz1
              have ke2 : Box2 (X1.drewN nq) fb 95 (.int .u8 x1) (.int .i64 x2) := ke
              obtain ⟨X2, hX2⟩ : ∃ X, X = X1.drewN nq := ⟨_, rfl⟩
              rw [← hX2] at hT2 ke2 ⊢
              have hz2 : W0.heap.size ≤ X2.heap.size := hT2.below.size
              clear hX2 hB2 ke hT1 hT1s hT g0 g1 gl hz1
              clear X1
              have q0 := hT2.row1.cell (i := 0) (by omega)
              have q1 := hT2.row1.frozen 0
              have ql := hT2.row1.lt
              have hT3 := hT2.set1 0 ((i : Int) + 1)
              have ke3 := ke2.other (B' := r0) (by omega) 0 (.int .i64 ((i : Int) + 1))
              go_wp2_with fail
              obtain ⟨X3, hX3⟩ : ∃ X, X = X2.setCell ⟨r0, 0, none⟩ (.int .i64 ((i : Int) + 1)) := ⟨_, rfl⟩
              rw [← hX3] at hT3 ke3 ⊢
              clear hX3 hT2 ke2 q0 q1 ql hz2
              clear X2
              go_loopw [59] (fun i' wi => ∃ (k : Nat) (G : Nat → Int), k ≤ m ∧ i' = .int .i64 k ∧ Two bt r1 r0 m g G W0.heap.size W0 wi (.slice (some ⟨r0, 0, none⟩) (m + 1) (m + 1)) (.slice (some ⟨r1, 0, none⟩) (m + 1) (m + 1)) ∧ Box2 wi fb 95 (.int .u8 x1) (.int .i64 x2) ∧ Hid (∀ j, j ≤ k → G j = tabM S A B (i + 1) j)) (fun i _ => m - (intOf i).toNat)
              case atStart => exact ⟨0, _, by omega, rfl, hT3, ke3, hid (fun j hj => by
                have : j = 0 := by omega
                subst this
                simp [tabM])⟩
              clear hT3 ke3
              clear X3
              case round =>
                obtain ⟨k, G, hk, rfl, hT, ke, HG⟩ := hrel
                have hBi := hT.below
                have hzi := hBi.size
                have hBwi := below_then hB0 hBi
                by_cases hlk : k < m
                · have hlk' : (k : Int) < (m : Int) := by omega
                  obtain ⟨bb, boff, eb, e1, e2⟩ := hBm k (by rw [HB.out]; exact hlk)
                  obtain ⟨y, hy⟩ : ∃ y, B.getD k (0, 0) = y := ⟨_, rfl⟩
                  rw [hy] at e1 e2
                  have HY := hid hy
                  clear hy
                  obtain ⟨y1, y2⟩ := y
                  simp only at e1 e2
                  replace e1 := cell_grown hBwi e1
                  replace e2 := cell_grown hBwi e2
                  have gb := lt_of_cell e1
                  subst eb
                  have q0 := hT.row0.cell (i := k) (by omega)
                  have ql := hT.row0.lt
                  have kc0 := ke.c0
                  have kc1 := ke.c1
                  have kl := ke.lt
                  have d0 := cell_below hBi (by omega) c0
                  have d1 := cell_below hBi (by omega) c1
                  have dl := lt_of_cell d0
                  have hk101 : (k : Int) ≤ 100 := by omega
                  have HF0 := hid (HF.out k (by omega))
                  have HF1 := hid (HF.out (k + 1) (by omega))
                  have HG0 := hid (HG.out k (by omega))
                  have b0 := tabM_bd S A B i k
                  have b1 := tabM_bd S A B i (k + 1)
                  have b2 := tabM_bd S A B (i + 1) k
                  have hpf : (if i % 2 = 0 then f else g) = g := by simp [hp]
                  rw [hpf] at HF0 HF1
                  have hnx : tabM S A B (i + 1) (k + 1) = min (min (g k + if mayM S (x1, x2) (y1, y2) then 0 else 1) (g (k + 1) + 1)) (G k + 1) := by
                    rw [HF0.out, HF1.out, HG0.out, ← HX.out, ← HY.out]
                    simp only [tabM]
                  rw [← HF0.out] at b0
                  rw [← HF1.out] at b1
                  rw [← HG0.out] at b2
                  clear hpf
                  have HNX := hid hnx
                  clear hnx
                  have hbd0 : 0 ≤ g k ∧ g k ≤ 200 := by omega
                  have hbd1 : 0 ≤ g (k + 1) ∧ g (k + 1) ≤ 200 := by omega
                  have hbd2 : 0 ≤ G k ∧ G k ≤ 201 := by omega
                  clear b0 b1 b2
                  have hBa := hBwi.alloc hBwi.size (.cells #[.int .u8 y1, .int .i64 y2] 95)
                  have hTa := hT.over (below_alloc wr (.cells #[.int .u8 y1, .int .i64 y2] 95)) hzi
                  have kea := ke.alloc (.cells #[.int .u8 y1, .int .i64 y2] 95)
                  go_wp2_with fail
                  refine (may_any S mv sn sc sa (x1, x2) (y1, y2) _ HS.out hsn (hS.grown hBa)).mono ?_
                  rintro e w4 ⟨rfl, hb4⟩
                  have hT4 := hTa.over hb4 (by simp; omega)
                  have ke4 : Box2 w4 fb 95 (.int .u8 x1) (.int .i64 x2) := (hb4.block _ kea.lt).trans kea
                  clear hTa kea hT ke q0 ql kc0 kc1 kl d0 d1 dl
                  have q0 := hT4.row0.cell (i := k + 1) (by omega)
                  have q1 := hT4.row1.cell (i := k) (by omega)
                  have q2 := hT4.row1.cell (i := k + 1) (by omega)
                  have q3 := hT4.row1.frozen (k + 1)
                  have l0 := hT4.row0.lt
                  have l1 := hT4.row1.lt
                  have dne := hT4.d01
                  generalize hp0 : g k = p at hbd0 HNX ⊢
                  generalize hp1 : g (k + 1) = q at hbd1 HNX q0
                  generalize hp2 : G k = r at hbd2 HNX q1
                  cases hmay : mayM S (x1, x2) (y1, y2)
                  · have HNX2 : Hid (tabM S A B (i + 1) (k + 1) = min (min (p + 1) (q + 1)) (r + 1)) := hid (by rw [HNX.out, hmay]; rfl)
                    clear HNX hmay
                    go_wp2_with fail
                    go_region
                    go_wp2
                    go_roundw
                    case rel => exact ⟨k + 1, _, by omega, by go_num, (hT4.set1 (k + 1) (if r + 1 < if q < p then q + 1 else p + 1 then r + 1 else if q < p then q + 1 else p + 1)).over ⟨rfl, rfl, rfl, Nat.le_refl _, fun _ _ => rfl⟩ (Nat.le_trans hT4.below.size (KeepsWalks.setCell _ _ _).size), ke4.other (B' := r0) (by omega) _ _, hid (fun j hj => by
                      by_cases e : j = k + 1
                      · subst e
                        simp only [if_true]
                        rw [HNX2.out]
                        split <;> split <;> omega
                      · simp only [e, if_false]
                        exact HG.out j (by omega))⟩
                    case measure => simp [intOf]; omega
                  · have HNX2 : Hid (tabM S A B (i + 1) (k + 1) = min (min p (q + 1)) (r + 1)) := hid (by rw [HNX.out, hmay]; simp)
                    clear HNX hmay
                    go_wp2_with fail
                    go_region
                    go_wp2
                    go_roundw
                    case rel => exact ⟨k + 1, _, by omega, by go_num, (hT4.set1 (k + 1) (if r + 1 < if q + 1 < p then q + 1 else p then r + 1 else if q + 1 < p then q + 1 else p)).over ⟨rfl, rfl, rfl, Nat.le_refl _, fun _ _ => rfl⟩ (Nat.le_trans hT4.below.size (KeepsWalks.setCell _ _ _).size), ke4.other (B' := r0) (by omega) _ _, hid (fun j hj => by
                      by_cases e : j = k + 1
                      · subst e
                        simp only [if_true]
                        rw [HNX2.out]
                        split <;> split <;> omega
                      · simp only [e, if_false]
                        exact HG.out j (by omega))⟩
                    case measure => simp [intOf]; omega
                · have hkm : k = m := by omega
                  subst hkm
                  go_wp2
                  go_roundw
                  case rel => exact ⟨i + 1, G, g, by omega, by go_num, hT.swap, hid (fun j hj => by
                    have e2 : (i + 1) % 2 = 0 := by omega
                    rw [if_pos e2]
                    exact HG.out j hj)⟩
                  case measure => simp [intOf]; omega
          · have hin : i = n := by omega
            subst hin
            have g0 := hT.box.c0
            have g1 := hT.box.c1
            have gl := hT.box.lt
            have hTm := HF.out m (Nat.le_refl _)
            have htr : troubleM S A B = tabM S A B i m := by rw [troubleM, HA.out, HB.out]
            have HTR := hid (htr.trans hTm.symm)
            clear htr hTm
            rcases Nat.mod_two_eq_zero_or_one i with hp | hp
            · have t1 : (i : Int).tmod 2 = 0 := by rw [Int.tmod_eq_emod_of_nonneg (by omega)]; omega
              have q0 := hT.row0.cell (i := m) (by omega)
              have ql := hT.row0.lt
              have hbm : (m : Int) < (m : Int) + 1 := by omega
              go_wp2
              go_ret
              exact ⟨by rw [HTR.out]; simp [hp], below_then hB0 hBw⟩
            · have t1 : (i : Int).tmod 2 = 1 := by rw [Int.tmod_eq_emod_of_nonneg (by omega)]; omega
              have q0 := hT.row1.cell (i := m) (by omega)
              have ql := hT.row1.lt
              have hbm : (m : Int) < (m : Int) + 1 := by omega
              go_wp2
              go_ret
              exact ⟨by rw [HTR.out]; simp [hp], below_then hB0 hBw⟩

end Go.Proofs.YtbampfkmgjfofaaGreatDoor
