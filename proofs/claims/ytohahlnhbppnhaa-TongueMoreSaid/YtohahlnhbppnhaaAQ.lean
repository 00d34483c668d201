/- Tongue: one sentence more, appended where the order is open. -/
import Derived.Test.YtohahlnhbppnhaaAH
import Derived.Test.YtohahlnhbppnhaaAF
namespace Go.Proofs.Ytohahlnhbppnhaa
open Go.RowKit
set_option linter.unusedSimpArgs false
set_option linter.unusedVariables false

/-- A text, appended to a row of the call's own, at a step of a region. -/
theorem step_append_text {P : Program} {w w0 : World} {ops : Array Oper} {o : Oper} {a : Act} {K : Act → World → Prop} {Q : Exit → Act → World → Prop} {E : Prop} (hgd : o.guard = none) (s x : Operand) (t : TypeId)
    (ho : o.op = .call { callee := .builtin .append, args := #[s, x], argTypes := #[t, t] })
    (base : Nat) (e : TypeId) (i : TypeInfo) (ht : P.underlying t = some (.slice e)) (hi : P.info? e = some i) (hz : i.zero = some (.agg #[.slice none 0 0, .int .i64 0])) (hsize : i.size = 2) (hby : i.bytes = 32)
    (v : Value) (n : Nat) (xs : List Value) (hs : a.eval s = v) (hown : w.ownsRow base e 2 v n xs) (za : Option Addr) (m c : Nat) (T : List Sen) (hx : a.eval x = .slice za m c) (hl : T.length = m) (hT : TextAt w0 za T) (hB : Below w0.heap.size w0 w)
    (h63 : n + m ≤ maxLen) (hbytes : (n + m) * 32 ≤ 140737488355328) (hbase : base ≤ w.heap.size)
    (h : ∀ v' w' us, w'.ownsRow base e 2 v' (n + m) (xs ++ us) → w.grownBy w' v.ownBlock → (v'.ownBlock = v.ownBlock ∨ v'.ownBlock = some w.heap.size) → CellsOf w0 T us → K (a.put o.dst v') w') :
    if Region.wanted o (yielded ops a.tmps) = true then Oper.wp P o a w K Q else E := by
  cases za with
  | none =>
    have hm : m = 0 := by
      cases m with
      | zero => rfl
      | succ m => obtain ⟨b, off, _, _, e, _⟩ := hT 0 (by omega); simp at e
    subst hm
    have hZ : T = [] := List.eq_nil_of_length_eq_zero hl
    subst hZ
    have hw : Region.wanted o (yielded ops a.tmps) = true := by simp [Region.wanted, hgd]
    rw [if_pos hw]
    have hrun := run_append_none (P := P) (w := w) base t o.type e i 2 c ht hi v n xs hown
    unfold Oper.wp
    simp [execOp, ho, resolve, invoke, builtin, hs, hx, hrun, Result.andThen]
    exact h v w [] (by simpa using hown) (World.grownBy.refl _ _) (Or.inl rfl) ⟨rfl, fun i hi => by simp at hi⟩
  | some ad =>
    obtain ⟨us, hus, hnews⟩ := cells_of_text hT
    have hnews' : ∀ j u, us[j]? = some u → w.cell? (ad.add j) = some u := fun j u hj => by
      have hc := hnews j u hj
      obtain ⟨b, off, _, _, ea, _⟩ := hT (j / 2) (by
        obtain ⟨h1, _⟩ := List.getElem?_eq_some_iff.1 hj
        have := hus.1
        omega)
      simp only [Option.some.injEq] at ea
      subst ea
      have hadd : (⟨b, off, none⟩ : Addr).add j = ⟨b, off + j, none⟩ := by unfold Addr.add; split <;> simp_all
      rw [hadd] at hc ⊢
      exact cell_grown hB hc
    exact step_append_at' hgd s x t ho base e i (.agg #[.slice none 0 0, .int .i64 0]) 2 32 ht hi hz hsize hby rfl (by decide) v n xs hs hown ad m c us hx (by rw [hus.1, hl]) hnews' hus.one h63 hbytes hbase (fun v' w' h1 h2 h3 => h v' w' us h1 h2 h3 hus)

end Go.Proofs.Ytohahlnhbppnhaa
