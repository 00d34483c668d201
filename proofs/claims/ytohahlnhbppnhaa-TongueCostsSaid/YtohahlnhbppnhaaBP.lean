/- Tongue, the laws: the report that counts, against the reference. -/
import Derived.Test.YtohahlnhbppnhaaBO
import Derived.Test.YtohahlnhbppnhaaAZ
namespace Go.Proofs.Ytohahlnhbppnhaa
open Go.RowKit
set_option linter.unusedSimpArgs false
set_option linter.unusedVariables false

theorem Try.underlying61 : Try.prog.underlying 61 = some (.slice 4) := by kernel_rfl
theorem Try.info4 : (Try.prog.info? 4).map (fun i => (i.zero, i.size, i.bytes)) = some (some (.bool false), 1, 1) := by kernel_rfl

/-- Truths, appended to a row of the call's own. -/
theorem wpList_append_bools {P : Program} {w : World} {ops : Array Oper} {rest : List Oper} {o : Oper} {a : Act} {Q : Exit → Act → World → Prop} (hgd : o.guard = none) (s x : Operand) (t : TypeId)
    (ho : o.op = .call { callee := .builtin .append, args := #[s, x], argTypes := #[t, t] })
    (base : Nat) (i : TypeInfo) (ht : P.underlying t = some (.slice 4)) (hi : P.info? 4 = some i) (hz : i.zero = some (.bool false)) (hsize : i.size = 1) (hby : i.bytes = 1)
    (v : Value) (n : Nat) (xs : List Value) (hs : a.eval s = v) (hown : w.ownsRow base 4 1 v n xs) (za : Option Addr) (m c : Nat) (Z : List Bool) (hx : a.eval x = .slice za m c) (hl : Z.length = m) (hI : BoolsAt w za Z)
    (h63 : n + m ≤ 1000000) (hbase : base ≤ w.heap.size)
    (h : ∀ v' w', w'.ownsRow base 4 1 v' (n + m) (xs ++ Z.map fun z => .bool z) → w.grownBy w' v.ownBlock → wpList P ops Q rest (a.put o.dst v') w') : wpList P ops Q (o :: rest) a w := by
  cases za with
  | none =>
    have hm : m = 0 := by
      cases m with
      | zero => rfl
      | succ m => obtain ⟨b, off, e, _⟩ := hI 0 (by omega); simp at e
    subst hm
    have hZ : Z = [] := List.eq_nil_of_length_eq_zero hl
    subst hZ
    exact wpList_append_nothing hgd s x t ho base 4 i 1 c ht hi v n xs hs hown hx (h v w (by simpa using hown) (World.grownBy.refl _ _))
  | some ad =>
    have hnews : ∀ j u, (Z.map fun z => Value.bool z)[j]? = some u → w.cell? (ad.add j) = some u := by
      intro j u hj
      have hjl : j < Z.length := by
        obtain ⟨h1, _⟩ := List.getElem?_eq_some_iff.1 hj
        simpa using h1
      obtain ⟨b, off, e, hcl⟩ := hI j hjl
      simp only [Option.some.injEq] at e
      subst e
      have hadd : (⟨b, off, none⟩ : Addr).add j = ⟨b, off + j, none⟩ := by unfold Addr.add; split <;> simp_all
      rw [hadd, hcl, ← hj]
      simp [List.getElem?_eq_getElem hjl]
    exact wpList_append_own_at w hgd s x t ho base 4 i (.bool false) 1 1 ht hi hz hsize hby rfl (by decide) v n xs hs hown ad m c _ hx (by simp [hl]) hnews (fun x hx => by
      simp only [List.mem_map] at hx
      obtain ⟨y, _, rfl⟩ := hx
      rfl) (by unfold maxLen; omega) (by omega) hbase (fun v' w' h1 h2 _ _ => h v' w' h1 h2)

theorem bools_of_owns {W : World} {B : Nat} {a : Option Addr} {cap : Nat} {l : List Bool} (h : W.ownsRow B 4 1 (.slice a l.length cap) l.length (l.map fun z => .bool z)) : BoolsAt W a l := by
  intro i hi
  rcases h.2 with ⟨hv, h0⟩ | ⟨g, cap', cur, hv, _⟩
  · omega
  · simp only [Value.slice.injEq] at hv
    obtain ⟨rfl, -, rfl⟩ := hv
    have hc := h.cells (g := g) rfl
    have c0 := hc i _ (by simp [List.getElem?_eq_getElem hi]; rfl)
    rw [add_plain] at c0
    exact ⟨g, 0, rfl, by rw [c0]; simp [List.getElem?_eq_getElem hi]⟩

end Go.Proofs.Ytohahlnhbppnhaa
