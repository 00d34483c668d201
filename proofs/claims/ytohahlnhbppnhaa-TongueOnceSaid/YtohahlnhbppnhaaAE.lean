/- Tongue, the laws: copies of numbers. -/
import Derived.Test.YtohahlnhbppnhaaAD
namespace Go.Proofs.Ytohahlnhbppnhaa
open Go.RowKit
set_option linter.unusedSimpArgs false
set_option linter.unusedVariables false

theorem run_append_none {P : Program} {w : World} (base : Nat) (t ty e : TypeId) (i : TypeInfo) (size c : Nat) (ht : P.underlying t = some (.slice e)) (hi : P.info? e = some i)
    (v : Value) (n : Nat) (xs : List Value) (hown : w.ownsRow base e size v n xs) :
    (Builtin.append_ #[t, t] ty #[v, .slice none 0 c]).run P w = .ok v w := by
  rcases hown.2 with ⟨rfl, rfl⟩ | ⟨g, cap, cur, rfl, _, _, hnc, _⟩
  · simp [Builtin.append_, run_underlying ht, sizeOf, typeInfo, hi, Builtin.lenOf, Builtin.firstCells]
  · simp [Builtin.append_, run_underlying ht, sizeOf, typeInfo, hi, Builtin.lenOf, Builtin.firstCells, hnc, storeCells]

theorem wpList_append_nothing {P : Program} {w : World} {ops : Array Oper} {rest : List Oper} {o : Oper} {a : Act} {Q : Exit → Act → World → Prop} (hgd : o.guard = none) (s x : Operand) (t : TypeId)
    (ho : o.op = .call { callee := .builtin .append, args := #[s, x], argTypes := #[t, t] })
    (base : Nat) (e : TypeId) (i : TypeInfo) (size c : Nat) (ht : P.underlying t = some (.slice e)) (hi : P.info? e = some i)
    (v : Value) (n : Nat) (xs : List Value) (hs : a.eval s = v) (hown : w.ownsRow base e size v n xs) (hx : a.eval x = .slice none 0 c)
    (h : wpList P ops Q rest (a.put o.dst v) w) : wpList P ops Q (o :: rest) a w := by
  refine wpList_plain hgd fun K hK => ?_
  have hrun := run_append_none (P := P) (w := w) base t o.type e i size c ht hi v n xs hown
  unfold Oper.wp
  simp [execOp, ho, resolve, invoke, builtin, hs, hx, hrun, Result.andThen]
  exact hK _ _ h

/-- Numbers, appended to a row of the call's own. -/
theorem wpList_append_ints {P : Program} {w : World} {ops : Array Oper} {rest : List Oper} {o : Oper} {a : Act} {Q : Exit → Act → World → Prop} (hgd : o.guard = none) (s x : Operand) (t : TypeId)
    (ho : o.op = .call { callee := .builtin .append, args := #[s, x], argTypes := #[t, t] })
    (base : Nat) (i : TypeInfo) (ht : P.underlying t = some (.slice 3)) (hi : P.info? 3 = some i) (hz : i.zero = some (.int .i64 0)) (hsize : i.size = 1) (hby : i.bytes = 8)
    (v : Value) (n : Nat) (xs : List Value) (hs : a.eval s = v) (hown : w.ownsRow base 3 1 v n xs) (za : Option Addr) (m c : Nat) (Z : List Int) (hx : a.eval x = .slice za m c) (hl : Z.length = m) (hI : IntsAt w za Z)
    (h63 : n + m ≤ 1000000) (hbase : base ≤ w.heap.size)
    (h : ∀ v' w', w'.ownsRow base 3 1 v' (n + m) (xs ++ Z.map fun z => .int .i64 z) → w.grownBy w' v.ownBlock → wpList P ops Q rest (a.put o.dst v') w') : wpList P ops Q (o :: rest) a w := by
  cases za with
  | none =>
    have hm : m = 0 := by
      cases m with
      | zero => rfl
      | succ m => obtain ⟨b, off, e, _⟩ := hI 0 (by omega); simp at e
    subst hm
    have hZ : Z = [] := List.eq_nil_of_length_eq_zero hl
    subst hZ
    exact wpList_append_nothing hgd s x t ho base 3 i 1 c ht hi v n xs hs hown hx (h v w (by simpa using hown) (World.grownBy.refl _ _))
  | some ad =>
    have hnews : ∀ j u, (Z.map fun z => Value.int .i64 z)[j]? = some u → w.cell? (ad.add j) = some u := by
      intro j u hj
      have hjl : j < Z.length := by
        obtain ⟨h1, _⟩ := List.getElem?_eq_some_iff.1 hj
        simpa using h1
      obtain ⟨b, off, e, hcl⟩ := hI j hjl
      simp only [Option.some.injEq] at e
      subst e
      have hadd : (⟨b, off, none⟩ : Addr).add j = ⟨b, off + j, none⟩ := by unfold Addr.add; split <;> simp_all
      rw [hadd, hcl, ← hj]
      simp [List.getElem?_eq_getElem hjl]
    exact wpList_append_own_at w hgd s x t ho base 3 i (.int .i64 0) 1 8 ht hi hz hsize hby rfl (by decide) v n xs hs hown ad m c _ hx (by simp [hl]) hnews (fun x hx => by
      simp only [List.mem_map] at hx
      obtain ⟨y, _, rfl⟩ := hx
      rfl) (by unfold maxLen; omega) (by omega) hbase (fun v' w' h1 h2 _ _ => h v' w' h1 h2)

set_option maxRecDepth 100000 in
set_option maxHeartbeats 1000000 in
theorem list_any (Z : List Int) (n cap : Nat) (a : Option Addr) (w : World) (hL : Z.length = n) (hn : n ≤ 1000000) (hI : IntsAt w a Z) :
    Calls Try.prog 54 #[.slice a n cap] w fun e w' => ∃ b c, e = .returned (.slice b n c) ∧ IntsAt w' b Z ∧ (∀ ad, b = some ad → w.heap.size ≤ ad.block ∧ ad.block < w'.heap.size) ∧ Below w.heap.size w w' := by
  obtain ⟨i0, hi0, hz0, hz1, hz2⟩ := info_parts Try.info3
  have hown := World.ownsRow_made (base := w.heap.size) (e := 3) (size := 1) w #[] 0 (Nat.le_refl _) (Nat.zero_le _) rfl
  have hb0 := below_alloc w (.cells #[] 3)
  have hI0 := hI.grown hb0
  have HL := hid hL
  clear hL hI
  go_enter Try.func54, Try.ntmps54
  go_wp2_with (at_builtin; refine wpList_append_ints rfl _ _ 41 rfl w.heap.size i0 Try.underlying41 hi0 hz0 hz1 hz2 _ 0 _ rfl hown a n cap Z rfl HL.out hI0 (by omega) hb0.size ?_; intro v' w' hown' hg)
  rw [Nat.zero_add, List.nil_append] at hown'
  obtain ⟨ra, rc, rfl⟩ := owns_shape hown'
  have hin := ints_of_owns (L := Z) (a := ra) (cap := rc) (W := w') (e := 3) (base := w.heap.size) (by rw [HL.out]; exact hown')
  have hg' : (w.alloc (.cells #[] 3)).grownBy w' (some w.heap.size) := hg
  have hb : Below w.heap.size w w' := hb0.grown hg' hb0.size (fun r e => by cases e; exact Nat.le_refl _)
  have hfr : ∀ ad, ra = some ad → w.heap.size ≤ ad.block ∧ ad.block < w'.heap.size := fun ad e => by
    rcases hown'.2 with ⟨hv, -⟩ | ⟨g, cap', cur, hv, -⟩
    · simp only [Value.slice.injEq] at hv
      rw [hv.1] at e
      cases e
    · simp only [Value.slice.injEq] at hv
      rw [hv.1] at e
      cases e
      exact hown'.lt g (by rw [hv.1]; rfl)
  clear hg hg' hown'
  go_ret
  exact ⟨ra, rc, rfl, hin, hfr, hb⟩

end Go.Proofs.Ytohahlnhbppnhaa
