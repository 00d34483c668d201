/- Tongue: a text read backwards. -/
import Derived.Test.YtohahlnhbppnhaaAJ
import Derived.Test.YtohahlnhbppnhaaAY
import Derived.Test.YtohahlnhbppnhaaBK
import Derived.Shelf.SlicesQ.Reverse
import Derived.Shelf.Slices.Clone
import Derived.Ground.SlgnProg
namespace Go.Proofs.Ytohahlnhbppnhaa
open Go.RowKit Go.Shelf Go.Lib Go.Sort
set_option linter.unusedSimpArgs false
set_option linter.unusedVariables false

shelf_lay_g SlLaysE0.n35 Slgn 35 at Try 118 as Try.reverseSens

/-- A sentence's two cells. -/
def encS (x : (Option Addr × Nat × Nat) × Int) : List Value := [.slice x.1.1 x.1.2.1 x.1.2.2, .int .i64 x.2]

theorem encS_one (x : (Option Addr × Nat × Nat) × Int) : ∀ v ∈ encS x, v.oneCell' = true := by
  intro v hv
  simp [encS] at hv
  rcases hv with rfl | rfl <;> rfl

/-- What lies in the cells of a text. -/
def decS (vs : List Value) (i : Nat) : (Option Addr × Nat × Nat) × Int :=
  ((match vs[i * 2]? with | some (.slice a n c) => (a, n, c) | _ => (none, 0, 0)), (match vs[i * 2 + 1]? with | some (.int _ z) => z | _ => 0))

def decA (vs : List Value) (n : Nat) : Array ((Option Addr × Nat × Nat) × Int) := ((List.range n).map (decS vs)).toArray

theorem decA_size (vs : List Value) (n : Nat) : (decA vs n).size = n := by simp [decA]

theorem decA_get (vs : List Value) (n i : Nat) (h : i < n) : (decA vs n)[i]! = decS vs i := by
  unfold decA
  rw [getElem!_pos _ i (by simpa using h)]
  simp

theorem decA_rev (vs : List Value) (n i : Nat) (h : i < n) : (decA vs n).reverse[i]! = decS vs (n - 1 - i) := by
  rw [getElem!_pos _ i (by simpa [decA] using h), Array.getElem_reverse]
  unfold decA
  simp

theorem dec_cells {w : World} {T : List Sen} {vs : List Value} (h : CellsOf w T vs) {i : Nat} (hi : i < T.length) : ∃ ma mc, decS vs i = ((ma, (T.getD i default).marks.length, mc), (T.getD i default).size) ∧ vs[i * 2]? = some (.slice ma (T.getD i default).marks.length mc) ∧ vs[i * 2 + 1]? = some (.int .i64 (T.getD i default).size) ∧ IntsAt w ma (T.getD i default).marks := by
  obtain ⟨ma, mc, e1, e2, e3⟩ := h.2 i hi
  refine ⟨ma, mc, ?_, e1, e2, e3⟩
  unfold decS
  rw [e1, e2]

theorem dec_holds {w0 W : World} {B n g cap : Nat} {T : List Sen} {vs : List Value} (hn : T.length = n) (h : W.ownsRow B 91 2 (.slice (some ⟨g, 0, none⟩) n cap) n vs) (hc : CellsOf w0 T vs) : HoldsK encS 2 W g 0 (decA vs n) := by
  intro j hj
  rw [size_flatK, decA_size] at hj
  rw [get_flatK _ _ _ _ (by rw [decA_size]; exact hj), decA_get _ _ _ (by omega)]
  obtain ⟨ma, mc, e0, e1, e2, -⟩ := dec_cells hc (i := j / 2) (by omega)
  rw [e0]
  have hcell := h.cells (g := g) rfl
  constructor
  · rcases (by omega : j = j / 2 * 2 ∨ j = j / 2 * 2 + 1) with e | e
    · have := hcell _ _ e1
      rw [add_plain, ← e] at this
      rw [this, show j % 2 = 0 by omega]
      rfl
    · have := hcell _ _ e2
      rw [add_plain, ← e] at this
      rw [this, show j % 2 = 1 by omega]
      rfl
  · rcases h.2 with ⟨hv, h0⟩ | ⟨g', cap', cur, hv, _, hg, _⟩
    · omega
    · simp only [Value.slice.injEq, Option.some.injEq, Addr.mk.injEq, and_true] at hv
      obtain ⟨rfl, -⟩ := hv
      unfold World.frozen?
      simp [hg]

theorem rev_get (T : List Sen) (i : Nat) (h : i < T.length) : T.reverse.getD i default = T.getD (T.length - 1 - i) default := by
  rw [List.getD_eq_getElem?_getD, List.getElem?_reverse h, List.getD_eq_getElem?_getD]

theorem isAgg91' : ∀ w, (isAgg 91).run Try.prog w = .ok true w := Try.isAgg91

/-- A text in cells of its own, its marks as they lay before. -/
def TextOver (w0 W : World) (b : Option Addr) (T : List Sen) : Prop :=
  ∀ i, i < T.length → ∃ g ma mc, b = some ⟨g, 0, none⟩ ∧ W.cell? ⟨g, i * 2, none⟩ = some (.slice ma (T.getD i default).marks.length mc) ∧ W.cell? ⟨g, i * 2 + 1, none⟩ = some (.int .i64 (T.getD i default).size) ∧ IntsAt w0 ma (T.getD i default).marks

theorem TextOver.text {w0 W : World} {b : Option Addr} {T : List Sen} (h : TextOver w0 W b T) (hB : Below w0.heap.size w0 W) : TextAt W b T := fun i hi => by
  obtain ⟨g, ma, mc, e, c0, c1, hI⟩ := h i hi
  exact ⟨g, 0, ma, mc, e, by rw [Nat.zero_add]; exact c0, by rw [Nat.zero_add]; exact c1, hI.grown hB⟩

set_option maxHeartbeats 1000000 in
theorem reverse_any (T : List Sen) (n cap B : Nat) (b : Option Addr) (vs : List Value) (w0 W : World) (hT : T.length = n) (hn : n ≤ 1000) (h : W.ownsRow B 91 2 (.slice b n cap) n vs) (hc : CellsOf w0 T vs) :
    Calls Try.prog 118 #[.slice b n cap] W fun e w' => e = .returned (.tuple #[]) ∧ TextOver w0 w' b T.reverse ∧ W.grownBy w' (Value.slice b n cap).ownBlock := by
  rcases Nat.eq_zero_or_pos n with h0 | h0
  · subst h0
    have ht : T = [] := List.eq_nil_of_length_eq_zero hT
    refine (AnyQ.slices_Reverse_empty Try.reverseSens b cap W).mono ?_
    rintro e w' ⟨rfl, rfl⟩
    exact ⟨rfl, by rw [ht]; intro i hi; simp at hi, World.grownBy.refl _ _⟩
  · obtain ⟨g, rfl⟩ := owns_some h h0
    have hh := dec_holds hT h hc
    have hr := AnyQ.slices_Reverse Try.reverseSens 2 Try.isAgg91 Try.sizeOf91 encS (fun _ => rfl) encS_one g 0 cap (decA vs n) W hh (by rw [decA_size]; omega)
    rw [decA_size] at hr
    refine hr.mono ?_
    rintro e w' ⟨rfl, k, rfl⟩
    have hh2 := holdsK_putRowK encS 2 (Sort.ahead W k) g 0 (decA vs n) (decA vs n).reverse (holdsK_ahead encS 2 W k g 0 _ hh) (by simp)
    have hgr : W.grownBy (putRowK encS 2 (Sort.ahead W k) g 0 (decA vs n).reverse) (some g) := by
      refine ⟨rfl, rfl, rfl, by unfold putRowK; simp, fun j _ hj => ?_⟩
      have hne : g ≠ j := fun e => hj (by rw [e])
      unfold putRowK putRow mapBlock
      simp [Array.getElem?_modify, hne]
    refine ⟨rfl, fun i hi => ?_, hgr⟩
    rw [List.length_reverse, hT] at hi
    have c0 := (hh2.cell (i := i) (c := 0) (by simp [decA_size]; exact hi) (by decide)).1
    have c1 := (hh2.cell (i := i) (c := 1) (by simp [decA_size]; exact hi) (by decide)).1
    rw [decA_rev _ _ _ hi] at c0 c1
    obtain ⟨ma, mc, e0, -, -, e3⟩ := dec_cells hc (i := n - 1 - i) (by omega)
    rw [e0] at c0 c1
    rw [rev_get T i (by omega), hT]
    rw [Nat.zero_add] at c0 c1
    exact ⟨g, ma, mc, rfl, c0, c1, e3⟩

theorem Try.underlying114' : Try.prog.underlying 114 = some (.slice 91) := Try.underlying114

set_option maxRecDepth 100000 in
set_option maxHeartbeats 1000000 in
theorem clone_text (T : List Sen) (n cap : Nat) (a : Option Addr) (w0 w : World) (hT : T.length = n) (hn : n ≤ 1000) (hS : TextAt w0 a T) (hB0 : Below w0.heap.size w0 w) :
    Calls Try.prog 117 #[.slice a n cap] w fun e w' => ∃ b c vs, e = .returned (.slice b n c) ∧ w'.ownsRow w.heap.size 91 2 (.slice b n c) n vs ∧ CellsOf w0 T vs ∧ n ≤ c ∧ Below w.heap.size w w' := by
  obtain ⟨i0, hi0, hz0, hz1, hz2⟩ := info_parts Try.info91
  cases a with
  | none =>
    have h0 : n = 0 := by
      rcases Nat.eq_zero_or_pos n with h | h
      · exact h
      · obtain ⟨b, off, ma, mc, e, -⟩ := hS 0 (by omega)
        cases e
    subst h0
    have ht : T = [] := List.eq_nil_of_length_eq_zero hT
    have hce : CellsOf w0 T [] := by rw [ht]; exact ⟨rfl, fun i hi => by simp at hi⟩
    have hnil := fun (w : World) => Lib.run_eql_slice_nil (P := Try.prog) w 114 91 none 0 cap 0 0 Try.underlying114
    clear hT hS ht
    go_enter Try.func117, Try.ntmps117
    go_wp2_with fail
    go_ret
    exact ⟨none, 0, [], rfl, World.ownsRow_nil _ _ _ _, hce, Nat.le_refl _, Below.refl _ _⟩
  | some ad =>
    have hown0 := World.ownsRow_made (base := w.heap.size) (e := 91) (size := 2) w #[] 0 (Nat.le_refl _) (Nat.zero_le _) rfl
    have hb0 := below_alloc w (.cells #[] 91)
    have HT := hid hT
    have hnil := fun (w : World) => Lib.run_eql_slice_nil (P := Try.prog) w 114 91 (some ad) n cap 0 0 Try.underlying114
    clear hT
    go_enter Try.func117, Try.ntmps117
    go_wp2_with (at_builtin; refine wpList_append_text (w0 := w0) rfl _ _ 114 rfl w.heap.size 91 i0 Try.underlying114 hi0 hz0 hz1 hz2 _ 0 _ rfl hown0 (some ad) n cap T rfl HT.out hS (below_then hB0 hb0) (by omega) hb0.size ?_; intro v1 w1 us hown1 hg1 hus; have hg1' : (w.alloc (.cells #[] 91)).grownBy w1 (some w.heap.size) := hg1; have hb1 : Below w.heap.size w w1 := hb0.grown hg1' hb0.size (fun r e => by cases e; exact Nat.le_refl _); clear hg1 hg1')
    rw [Nat.zero_add, List.nil_append] at hown1
    obtain ⟨ta, tc, rfl⟩ := owns_shape hown1
    go_ret
    refine ⟨ta, tc, us, rfl, hown1, hus, ?_, hb1⟩
    rcases hown1.2 with ⟨hv, h0⟩ | ⟨g, cap', cur, hv, _, _, hle, _⟩
    · omega
    · simp only [Value.slice.injEq] at hv
      omega

end Go.Proofs.Ytohahlnhbppnhaa
