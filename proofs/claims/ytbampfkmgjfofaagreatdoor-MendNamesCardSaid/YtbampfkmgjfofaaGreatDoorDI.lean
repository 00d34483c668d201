/- Mend, the laws: an append at a region that draws its order; the sense of any number of texts. -/
import Derived.Test.YtbampfkmgjfofaaGreatDoorDC
import Derived.Test.YtbampfkmgjfofaaGreatDoorCT
import Derived.Test.YtbampfkmgjfofaaGreatDoorCV
import Derived.Maps.AppendAt
import Derived.Deep.AppendLies
namespace Go.Proofs.YtbampfkmgjfofaaGreatDoor
open Go.RowKit

/-- An append whose run is known, at a step of a region. -/
theorem step_append_run {P : Program} {w w' : World} {ops : Array Oper} {o : Oper} {a : Act} {K : Act → World → Prop} {Q : Exit → Act → World → Prop} {E : Prop} (hgd : o.guard = none) (s x : Operand) (t : TypeId)
    (ho : o.op = .call { callee := .builtin .append, args := #[s, x], argTypes := #[t, t] }) (v y v' : Value) (hs : a.eval s = v) (hx : a.eval x = y)
    (hrun : (Builtin.append_ #[t, t] o.type #[v, y]).run P w = .ok v' w') (hK : K (a.put o.dst v') w') :
    if Region.wanted o (yielded ops a.tmps) = true then Oper.wp P o a w K Q else E := by
  have hw : Region.wanted o (yielded ops a.tmps) = true := by simp [Region.wanted, hgd]
  rw [if_pos hw]
  unfold Oper.wp
  simp [execOp, ho, resolve, invoke, builtin, hs, hx, hrun, Result.andThen]
  exact hK

/-- Texts, appended to texts of the call's own, at a step of a region. -/
theorem step_append_strs {P : Program} {w : World} {ops : Array Oper} {o : Oper} {a : Act} {K : Act → World → Prop} {Q : Exit → Act → World → Prop} {E : Prop} (hgd : o.guard = none) (s x : Operand) (t : TypeId)
    (ho : o.op = .call { callee := .builtin .append, args := #[s, x], argTypes := #[t, t] })
    (base : Nat) (i : TypeInfo) (ht : P.underlying t = some (.slice 9)) (hi : P.info? 9 = some i) (hz : i.zero = some (.string .empty)) (hsize : i.size = 1) (hby : i.bytes = 16)
    (v : Value) (n : Nat) (xs : List Value) (hs : a.eval s = v) (hown : w.ownsRow base 9 1 v n xs) (za : Option Addr) (m c : Nat) (Z : List Tx) (hx : a.eval x = .slice za m c) (hl : Z.length = m) (hI : Strs w za Z)
    (h63 : n + m ≤ 1000000) (hbase : base ≤ w.heap.size)
    (h : ∀ v' w', w'.ownsRow base 9 1 v' (n + m) (xs ++ flatV strC Z) → w.grownBy w' v.ownBlock → (v'.ownBlock = v.ownBlock ∨ v'.ownBlock = some w.heap.size) → K (a.put o.dst v') w') :
    if Region.wanted o (yielded ops a.tmps) = true then Oper.wp P o a w K Q else E := by
  cases za with
  | none =>
    have hm : m = 0 := by
      cases m with
      | zero => rfl
      | succ m => obtain ⟨b, off, e, _⟩ := hI 0 (by omega); simp at e
    subst hm
    have hZ : Z = [] := List.eq_nil_of_length_eq_zero hl
    subst hZ
    exact step_append_run hgd s x t ho v _ v hs hx (run_append_none base t o.type 9 i 1 c ht hi v n xs hown) (h v w (by simpa [flatV] using hown) (World.grownBy.refl _ _) (.inl rfl))
  | some ad =>
    have hfl : (flatV strC Z).length = m * 1 := by rw [flatV_length (k := 1) (fun _ => rfl), hl]
    have hnews : ∀ j u, (flatV strC Z)[j]? = some u → w.cell? (ad.add j) = some u := by
      intro j u hj
      have hjl : j < Z.length := by
        obtain ⟨h1, _⟩ := List.getElem?_eq_some_iff.1 hj
        rw [hfl] at h1
        omega
      obtain ⟨b, off, e, hcl⟩ := hI j hjl
      simp only [Option.some.injEq] at e
      subst e
      have hadd : (⟨b, off, none⟩ : Addr).add j = ⟨b, off + j, none⟩ := by unfold Addr.add; split <;> simp_all
      have hg := flatV_get (f := strC) (k := 1) (fun _ => rfl) Z .empty j 0 hjl (by omega)
      rw [Nat.mul_one, Nat.add_zero, hj] at hg
      rw [hadd, hcl]
      exact hg.symm
    obtain ⟨v', w', hr, h1, h2, -, h4⟩ := run_append_own_at (P := P) (w := w) base t o.type 9 i (.string .empty) 1 16 ht hi hz hsize hby rfl (by decide) v n xs hown ad m c (flatV strC Z) hfl hnews (fun x hx => by
      obtain ⟨y, _, hy⟩ := List.mem_flatMap.1 hx
      simp only [strC, List.mem_singleton] at hy
      subst hy
      rfl) (by unfold maxLen; omega) (by omega) hbase
    exact step_append_run hgd s x t ho v _ v' hs hx hr (h v' w' h1 h2 h4)

/-- Marks, appended to marks of the call's own, at a step of a region. -/
theorem step_append_marks {P : Program} {w : World} {ops : Array Oper} {o : Oper} {a : Act} {K : Act → World → Prop} {Q : Exit → Act → World → Prop} {E : Prop} (hgd : o.guard = none) (s x : Operand) (t : TypeId)
    (ho : o.op = .call { callee := .builtin .append, args := #[s, x], argTypes := #[t, t] })
    (base : Nat) (i : TypeInfo) (ht : P.underlying t = some (.slice 95)) (hi : P.info? 95 = some i) (hz : i.zero = some (.agg #[.int .u8 0, .int .i64 0])) (hsize : i.size = 2) (hby : i.bytes = 16)
    (v : Value) (n : Nat) (xs : List Value) (hs : a.eval s = v) (hown : w.ownsRow base 95 2 v n xs) (za : Option Addr) (m c : Nat) (Z : List (Int × Int)) (hx : a.eval x = .slice za m c) (hl : Z.length = m) (hI : Marks w za Z)
    (h63 : n + m ≤ 1000000) (hbase : base ≤ w.heap.size)
    (h : ∀ v' w', w'.ownsRow base 95 2 v' (n + m) (xs ++ flatV markC Z) → w.grownBy w' v.ownBlock → (v'.ownBlock = v.ownBlock ∨ v'.ownBlock = some w.heap.size) → K (a.put o.dst v') w') :
    if Region.wanted o (yielded ops a.tmps) = true then Oper.wp P o a w K Q else E := by
  cases za with
  | none =>
    have hm : m = 0 := by
      cases m with
      | zero => rfl
      | succ m => obtain ⟨b, off, e, _⟩ := hI 0 (by omega); simp at e
    subst hm
    have hZ : Z = [] := List.eq_nil_of_length_eq_zero hl
    subst hZ
    exact step_append_run hgd s x t ho v _ v hs hx (run_append_none base t o.type 95 i 2 c ht hi v n xs hown) (h v w (by simpa [flatV] using hown) (World.grownBy.refl _ _) (.inl rfl))
  | some ad =>
    have hfl : (flatV markC Z).length = m * 2 := by rw [flatV_length (k := 2) (fun _ => rfl), hl]
    have hnews : ∀ j u, (flatV markC Z)[j]? = some u → w.cell? (ad.add j) = some u := by
      intro j u hj
      have hjl : j / 2 < Z.length := by
        obtain ⟨h1, _⟩ := List.getElem?_eq_some_iff.1 hj
        rw [hfl] at h1
        omega
      obtain ⟨b, off, e, hc0, hc1⟩ := hI (j / 2) hjl
      simp only [Option.some.injEq] at e
      subst e
      have hadd : (⟨b, off, none⟩ : Addr).add j = ⟨b, off + j, none⟩ := by unfold Addr.add; split <;> simp_all
      have hg := flatV_get (f := markC) (k := 2) (fun _ => rfl) Z (0, 0) (j / 2) (j % 2) hjl (by omega)
      rw [show j / 2 * 2 + j % 2 = j by omega, hj] at hg
      rw [hadd]
      rcases (by omega : j % 2 = 0 ∨ j % 2 = 1) with e | e
      · rw [e] at hg
        rw [show off + j = off + j / 2 * 2 by omega, hc0]
        exact hg.symm
      · rw [e] at hg
        rw [show off + j = off + j / 2 * 2 + 1 by omega, hc1]
        exact hg.symm
    obtain ⟨v', w', hr, h1, h2, -, h4⟩ := run_append_own_at (P := P) (w := w) base t o.type 95 i (.agg #[.int .u8 0, .int .i64 0]) 2 16 ht hi hz hsize hby rfl (by decide) v n xs hown ad m c (flatV markC Z) hfl hnews (fun x hx => by
      obtain ⟨y, _, hy⟩ := List.mem_flatMap.1 hx
      simp only [markC, List.mem_cons, List.not_mem_nil, or_false] at hy
      rcases hy with rfl | rfl <;> rfl) (by unfold maxLen; omega) (by omega) hbase
    exact step_append_run hgd s x t ho v _ v' hs hx hr (h v' w' h1 h2 h4)

end Go.Proofs.YtbampfkmgjfofaaGreatDoor
