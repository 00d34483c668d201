/- Contract of the law's list, of a list of numbers that may be of nothing. -/
import Derived.Test.YtgapbaelifcifaaFA
namespace Go.Proofs.Ytgapbaelifcifaa
open Go.RowKit

theorem run_append_none {P : Program} {w : World} (base : Nat) (t ty e : TypeId) (i : TypeInfo) (size c : Nat) (ht : P.underlying t = some (.slice e)) (hi : P.info? e = some i)
    (v : Value) (n : Nat) (xs : List Value) (hown : w.ownsRow base e size v n xs) :
    (Builtin.append_ #[t, t] ty #[v, .slice none 0 c]).run P w = .ok v w := by
  rcases hown.2 with ⟨rfl, rfl⟩ | ⟨g, cap, cur, rfl, _, _, hnc, _⟩
  · simp [Builtin.append_, run_underlying ht, sizeOf, typeInfo, hi, Builtin.lenOf, Builtin.firstCells]
  · simp [Builtin.append_, run_underlying ht, sizeOf, typeInfo, hi, Builtin.lenOf, Builtin.firstCells, hnc, storeCells]

theorem wpList_append_none {P : Program} {w : World} {ops : Array Oper} {rest : List Oper} {o : Oper} {a : Act} {Q : Exit → Act → World → Prop} (hgd : o.guard = none) (s x : Operand) (t : TypeId)
    (ho : o.op = .call { callee := .builtin .append, args := #[s, x], argTypes := #[t, t] })
    (base : Nat) (e : TypeId) (i : TypeInfo) (size c : Nat) (ht : P.underlying t = some (.slice e)) (hi : P.info? e = some i)
    (v : Value) (n : Nat) (xs : List Value) (hs : a.eval s = v) (hown : w.ownsRow base e size v n xs) (hx : a.eval x = .slice none 0 c)
    (h : wpList P ops Q rest (a.put o.dst v) w) : wpList P ops Q (o :: rest) a w := by
  refine wpList_plain hgd fun K hK => ?_
  have hrun := run_append_none (P := P) (w := w) base t o.type e i size c ht hi v n xs hown
  unfold Oper.wp
  simp [execOp, ho, resolve, invoke, builtin, hs, hx, hrun, Result.andThen]
  exact hK _ _ h

set_option maxRecDepth 100000 in
set_option maxHeartbeats 1000000 in
theorem list_free (Z : List Int) (n cap : Nat) (a : Option Addr) (w : World) (hL : Z.length = n) (hn : n ≤ 1000000) (hI : Ints w a Z) :
    Calls Try.prog 35 #[.slice a n cap] w fun e w' => ∃ v, e = .returned v ∧ w'.ownsRow w.heap.size 3 1 v n (flat1 Z) ∧ Below w.heap.size w w' := by
  cases a with
  | some ad => exact list_any Z n cap (some ad) w hL hn hI (fun h => by simp at h)
  | none =>
    obtain ⟨i3, hi3, -, -, -⟩ := info_parts Try.info3
    have hown := World.ownsRow_nil (w := w) w.heap.size 3 1
    have hn0 : n = 0 := by
      cases n with
      | zero => rfl
      | succ n => obtain ⟨b, off, e, _⟩ := hI 0 (by omega); simp at e
    subst hn0
    have hz : Z = [] := List.eq_nil_of_length_eq_zero hL
    subst hz
    go_enter Try.func35, Try.ntmps35
    go_wp2_with (at_builtin; refine wpList_append_none rfl _ _ 53 rfl w.heap.size 3 i3 1 cap Try.underlying53 hi3 _ 0 _ rfl hown rfl ?_)
    go_ret
    exact ⟨_, rfl, hown, Below.refl _ _⟩

end Go.Proofs.Ytgapbaelifcifaa
