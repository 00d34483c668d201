/- Mend, the laws: marks, appended to a slice of the call's own. -/
import Derived.Test.YtbampfkmgjfofaaGreatDoorBO
namespace Go.Proofs.YtbampfkmgjfofaaGreatDoor
open Go.RowKit

theorem wpList_append_marks {P : Program} {w : World} {ops : Array Oper} {rest : List Oper} {o : Oper} {a : Act} {Q : Exit → Act → World → Prop} (hgd : o.guard = none) (s x : Operand) (t : TypeId)
    (ho : o.op = .call { callee := .builtin .append, args := #[s, x], argTypes := #[t, t] })
    (base : Nat) (i : TypeInfo) (ht : P.underlying t = some (.slice 95)) (hi : P.info? 95 = some i) (hz : i.zero = some (.agg #[.int .u8 0, .int .i64 0])) (hsize : i.size = 2) (hby : i.bytes = 16)
    (v : Value) (n : Nat) (xs : List Value) (hs : a.eval s = v) (hown : w.ownsRow base 95 2 v n xs) (za : Option Addr) (m c : Nat) (Z : List (Int × Int)) (hx : a.eval x = .slice za m c) (hl : Z.length = m) (hI : Marks w za Z)
    (h63 : n + m ≤ 1000000) (hbase : base ≤ w.heap.size)
    (h : ∀ v' w', w'.ownsRow base 95 2 v' (n + m) (xs ++ flatV markC Z) → w.grownBy w' v.ownBlock → wpList P ops Q rest (a.put o.dst v') w') : wpList P ops Q (o :: rest) a w := by
  cases za with
  | none =>
    have hm : m = 0 := by
      cases m with
      | zero => rfl
      | succ m => obtain ⟨b, off, e, _⟩ := hI 0 (by omega); simp at e
    subst hm
    have hZ : Z = [] := List.eq_nil_of_length_eq_zero hl
    subst hZ
    exact wpList_append_none hgd s x t ho base 95 i 2 c ht hi v n xs hs hown hx (h v w (by simpa [flatV] using hown) (World.grownBy.refl _ _))
  | some ad =>
    have hfl : (flatV markC Z).length = m * 2 := by rw [flatV_length (k := 2) (fun _ => rfl), hl]
    have hnews : ∀ j u, (flatV markC Z)[j]? = some u → w.cell? (ad.add j) = some u := by
      intro j u hj
      have hjl : j / 2 < Z.length := by
        obtain ⟨h1, _⟩ := List.getElem?_eq_some_iff.1 hj
        rw [hfl] at h1
        omega
      obtain ⟨b, off, e, hc0, hc1⟩ := hI (j / 2) hjl
      simp only [Option.some.injEq] at e
      subst e
      have hadd : (⟨b, off, none⟩ : Addr).add j = ⟨b, off + j, none⟩ := by unfold Addr.add; split <;> simp_all
      have hg := flatV_get (f := markC) (k := 2) (fun _ => rfl) Z (0, 0) (j / 2) (j % 2) hjl (by omega)
      rw [show j / 2 * 2 + j % 2 = j by omega, hj] at hg
      rw [hadd]
      rcases (by omega : j % 2 = 0 ∨ j % 2 = 1) with e | e
      · rw [e] at hg
        rw [show off + j = off + j / 2 * 2 by omega, hc0]
        exact hg.symm
      · rw [e] at hg
        rw [show off + j = off + j / 2 * 2 + 1 by omega, hc1]
        exact hg.symm
    exact wpList_append_own w hgd s x t ho base 95 i (.agg #[.int .u8 0, .int .i64 0]) 2 16 ht hi hz hsize hby rfl (by decide) v n xs hs hown ad m c (flatV markC Z) hx hfl hnews (fun x hx => by
      obtain ⟨y, _, hy⟩ := List.mem_flatMap.1 hx
      simp only [markC, List.mem_cons, List.not_mem_nil, or_false] at hy
      rcases hy with rfl | rfl <;> rfl) (by unfold maxLen; omega) (by omega) hbase fun v' w' h1 h2 _ => h v' w' h1 h2

end Go.Proofs.YtbampfkmgjfofaaGreatDoor
