/- Tongue, the reference: the error of two texts. -/
import Derived.Test.YtohahlnhbppnhaaAG
namespace Go.Proofs.Ytohahlnhbppnhaa
open Go.RowKit
set_option linter.unusedSimpArgs false
set_option linter.unusedVariables false

theorem Try.info103 : (Try.prog.info? 103).map (fun i => (i.zero, i.size, i.bytes)) = some (some (.agg #[.slice none 0 0, .int .i64 0]), 2, 32) := by kernel_rfl

/-- The cells of a text. -/
def CellsOf (w : World) (T : List Sen) (vs : List Value) : Prop :=
  vs.length = T.length * 2 ∧ ∀ i, i < T.length → ∃ ma mc, vs[i * 2]? = some (.slice ma (T.getD i default).marks.length mc) ∧ vs[i * 2 + 1]? = some (.int .i64 (T.getD i default).size) ∧ IntsAt w ma (T.getD i default).marks

theorem cells_of_text {w : World} {ad : Addr} {T : List Sen} (h : TextAt w (some ad) T) : ∃ vs, CellsOf w T vs ∧ ∀ j u, vs[j]? = some u → w.cell? (ad.add j) = some u := by
  refine ⟨(List.range (T.length * 2)).map fun j => (w.cell? (ad.add j)).getD undef, ⟨by simp, fun i hi => ?_⟩, fun j u hj => ?_⟩
  · obtain ⟨b, off, ma, mc, ea, c1, c2, c3⟩ := h i hi
    simp only [Option.some.injEq] at ea
    subst ea
    have hadd : ∀ j, (⟨b, off, none⟩ : Addr).add j = ⟨b, off + j, none⟩ := fun j => by unfold Addr.add; split <;> simp_all
    refine ⟨ma, mc, ?_, ?_, c3⟩
    · rw [List.getElem?_map, List.getElem?_range (by omega)]
      simp only [Option.map_some, hadd, c1, Option.getD_some]
    · rw [List.getElem?_map, List.getElem?_range (by omega)]
      simp only [Option.map_some, hadd, ← Nat.add_assoc, c2, Option.getD_some]
  · obtain ⟨hl, hu⟩ := List.getElem?_eq_some_iff.1 hj
    simp only [List.length_map, List.length_range] at hl
    simp only [List.getElem_map, List.getElem_range] at hu
    obtain ⟨b, off, ma, mc, ea, c1, c2, c3⟩ := h (j / 2) (by omega)
    simp only [Option.some.injEq] at ea
    subst ea
    have hadd : ∀ j, (⟨b, off, none⟩ : Addr).add j = ⟨b, off + j, none⟩ := fun j => by unfold Addr.add; split <;> simp_all
    rw [hadd] at hu ⊢
    rcases (by omega : j = j / 2 * 2 ∨ j = j / 2 * 2 + 1) with e | e
    · rw [← e] at c1
      rw [c1] at hu ⊢
      rw [← hu]
      rfl
    · rw [Nat.add_assoc, ← e] at c2
      rw [c2] at hu ⊢
      rw [← hu]
      rfl

theorem CellsOf.one {w : World} {T : List Sen} {vs : List Value} (h : CellsOf w T vs) : ∀ u ∈ vs, u.oneCell' = true := by
  intro u hu
  obtain ⟨j, hj, rfl⟩ := List.mem_iff_getElem.1 hu
  obtain ⟨ma, mc, e1, e2, -⟩ := h.2 (j / 2) (by have := h.1; omega)
  rcases (by omega : j = j / 2 * 2 ∨ j = j / 2 * 2 + 1) with e | e
  · rw [← e, List.getElem?_eq_getElem hj] at e1
    simp only [Option.some.injEq] at e1
    rw [e1]
    rfl
  · rw [← e, List.getElem?_eq_getElem hj] at e2
    simp only [Option.some.injEq] at e2
    rw [e2]
    rfl

theorem CellsOf.append {w : World} {L R : List Sen} {vs us : List Value} (h : CellsOf w L vs) (h' : CellsOf w R us) : CellsOf w (L ++ R) (vs ++ us) := by
  have hl := h.1
  refine ⟨by rw [List.length_append, List.length_append, h.1, h'.1]; omega, fun i hi => ?_⟩
  rw [List.length_append] at hi
  by_cases e : i < L.length
  · obtain ⟨ma, mc, e1, e2, e3⟩ := h.2 i e
    have hg : (L ++ R).getD i default = L.getD i default := by rw [List.getD_eq_getElem?_getD, List.getD_eq_getElem?_getD, List.getElem?_append_left e]
    rw [hg]
    exact ⟨ma, mc, by rw [List.getElem?_append_left (by omega)]; exact e1, by rw [List.getElem?_append_left (by omega)]; exact e2, e3⟩
  · obtain ⟨ma, mc, e1, e2, e3⟩ := h'.2 (i - L.length) (by omega)
    have hg : (L ++ R).getD i default = R.getD (i - L.length) default := by rw [List.getD_eq_getElem?_getD, List.getD_eq_getElem?_getD, List.getElem?_append_right (by omega)]
    rw [hg]
    exact ⟨ma, mc, by rw [List.getElem?_append_right (by omega), hl, show i * 2 - L.length * 2 = (i - L.length) * 2 by omega]; exact e1, by rw [List.getElem?_append_right (by omega), hl, show i * 2 + 1 - L.length * 2 = (i - L.length) * 2 + 1 by omega]; exact e2, e3⟩

theorem text_of_cells {w W : World} {base : Nat} {e : TypeId} {a : Option Addr} {n cap : Nat} {T : List Sen} {vs : List Value} (hn : T.length = n) (h : W.ownsRow base e 2 (.slice a n cap) n vs) (hs : CellsOf w T vs) (hB : Below w.heap.size w W) : TextAt W a T := by
  intro i hi
  rcases h.2 with ⟨hv, h0⟩ | ⟨g, cap', cur, hv, _, hg, hnc, _⟩
  · simp only [Value.slice.injEq] at hv
    obtain ⟨-, rfl, -⟩ := hv
    omega
  · simp only [Value.slice.injEq] at hv
    obtain ⟨rfl, -, rfl⟩ := hv
    have hc := h.cells (g := g) rfl
    have hadd : ∀ j, (⟨g, 0, none⟩ : Addr).add j = ⟨g, 0 + j, none⟩ := fun j => by unfold Addr.add; split <;> simp_all
    obtain ⟨ma, mc, e1, e2, e3⟩ := hs.2 i hi
    have c1 := hc _ _ e1
    have c2 := hc _ _ e2
    rw [hadd] at c1 c2
    exact ⟨g, 0, ma, mc, rfl, c1, by rw [Nat.add_assoc]; exact c2, e3.grown hB⟩

/-- A text, appended to a row of the call's own. -/
theorem wpList_append_text {P : Program} {w w0 : World} {ops : Array Oper} {rest : List Oper} {o : Oper} {a : Act} {Q : Exit → Act → World → Prop} (hgd : o.guard = none) (s x : Operand) (t : TypeId)
    (ho : o.op = .call { callee := .builtin .append, args := #[s, x], argTypes := #[t, t] })
    (base : Nat) (e : TypeId) (i : TypeInfo) (ht : P.underlying t = some (.slice e)) (hi : P.info? e = some i) (hz : i.zero = some (.agg #[.slice none 0 0, .int .i64 0])) (hsize : i.size = 2) (hby : i.bytes = 32)
    (v : Value) (n : Nat) (xs : List Value) (hs : a.eval s = v) (hown : w.ownsRow base e 2 v n xs) (za : Option Addr) (m c : Nat) (T : List Sen) (hx : a.eval x = .slice za m c) (hl : T.length = m) (hT : TextAt w0 za T) (hB : Below w0.heap.size w0 w)
    (h63 : n + m ≤ 1000000) (hbase : base ≤ w.heap.size)
    (h : ∀ v' w' us, w'.ownsRow base e 2 v' (n + m) (xs ++ us) → w.grownBy w' v.ownBlock → CellsOf w0 T us → wpList P ops Q rest (a.put o.dst v') w') : wpList P ops Q (o :: rest) a w := by
  cases za with
  | none =>
    have hm : m = 0 := by
      cases m with
      | zero => rfl
      | succ m => obtain ⟨b, off, _, _, e, _⟩ := hT 0 (by omega); simp at e
    subst hm
    have hZ : T = [] := List.eq_nil_of_length_eq_zero hl
    subst hZ
    exact wpList_append_nothing hgd s x t ho base e i 2 c ht hi v n xs hs hown hx (h v w [] (by simpa using hown) (World.grownBy.refl _ _) ⟨rfl, fun i hi => by simp at hi⟩)
  | some ad =>
    obtain ⟨us, hus, hnews⟩ := cells_of_text hT
    have hnews' : ∀ j u, us[j]? = some u → w.cell? (ad.add j) = some u := fun j u hj => by
      have hc := hnews j u hj
      have hlt := World.block_lt_of_cell? w0 _ hc
      obtain ⟨b, off, _, _, ea, _⟩ := hT (j / 2) (by
        obtain ⟨h1, _⟩ := List.getElem?_eq_some_iff.1 hj
        have := hus.1
        omega)
      simp only [Option.some.injEq] at ea
      subst ea
      have hadd : (⟨b, off, none⟩ : Addr).add j = ⟨b, off + j, none⟩ := by unfold Addr.add; split <;> simp_all
      rw [hadd] at hc ⊢
      exact cell_grown hB hc
    exact wpList_append_own_at w hgd s x t ho base e i (.agg #[.slice none 0 0, .int .i64 0]) 2 32 ht hi hz hsize hby rfl (by decide) v n xs hs hown ad m c us hx (by rw [hus.1, hl]) hnews' hus.one (by unfold maxLen; omega) (by omega) hbase (fun v' w' h1 h2 _ _ => h v' w' us h1 h2 hus)

end Go.Proofs.Ytohahlnhbppnhaa
