/- Contracts of staffs, of the reference's Listed, of the law's list. Contract of the law's list, of a list of numbers that may be of nothing. -/
import Derived.Test.YtgapbaelifcifaaAF
import Derived.Test.YtgapbaelifcifaaCG
import Derived.BigQuiet
import Derived.Laws.AppendOwnNone
namespace Go.Proofs.Ytgapbaelifcifaa
open Go.RowKit

/-- One reporter of the crew for each take. -/
def staffsM (cn tn : Nat) (Z : List Int) : Bool := decide (Z.length = tn) && Z.all fun z => inB z 0 ((cn : Int) - 1)

theorem all_no {cn : Nat} {Z : List Int} {k : Nat} (hk : k < Z.length) (h : inB (Z.getD k 0) 0 ((cn : Int) - 1) = false) : (Z.all fun z => inB z 0 ((cn : Int) - 1)) = false := by
  rw [List.getD_eq_getElem?_getD, List.getElem?_eq_getElem hk, Option.getD_some] at h
  rw [List.all_eq_false]
  exact ⟨Z[k], List.getElem_mem hk, by rw [h]; simp⟩

theorem all_yes {cn : Nat} {Z : List Int} (h : ∀ j, j < Z.length → inB (Z.getD j 0) 0 ((cn : Int) - 1) = true) : (Z.all fun z => inB z 0 ((cn : Int) - 1)) = true := by
  rw [List.all_eq_true]
  intro x hx
  obtain ⟨i, hi, rfl⟩ := List.mem_iff_getElem.1 hx
  have := h i hi
  rwa [List.getD_eq_getElem?_getD, List.getElem?_eq_getElem hi, Option.getD_some] at this

theorem staffs_at {cn tn : Nat} {Z : List Int} (h : staffsM cn tn Z = true) : Z.length = tn ∧ ∀ j, j < Z.length → 0 ≤ Z.getD j 0 ∧ Z.getD j 0 < cn := by
  unfold staffsM at h
  rw [Bool.and_eq_true, decide_eq_true_eq, List.all_eq_true] at h
  refine ⟨h.1, fun j hj => ?_⟩
  rw [List.getD_eq_getElem?_getD, List.getElem?_eq_getElem hj, Option.getD_some]
  have := h.2 _ (List.getElem_mem hj)
  simp only [inB, decide_eq_true_eq] at this
  omega

set_option maxHeartbeats 400000 in
theorem st1_any (i r : Int) (b cn cc : Nat) (ca : Option Addr) (w : World) (hcn : cn ≤ 5) (h4 : w.cell? ⟨b, 4, none⟩ = some (.slice ca cn cc)) :
    Calls Try.prog 79 #[.int .i64 i, .int .i64 r, .pointer (some ⟨b, 0, none⟩)] w fun e w' => e = .returned (.bool (inB r 0 ((cn : Int) - 1))) ∧ w = w' := by
  have gb := lt_of_cell h4
  go_enter Try.func79, Try.ntmps79
  go_wp2_with fail
  refine (within_any _ _ _ _).mono ?_
  rintro e w' ⟨rfl, rfl⟩
  go_wp2
  go_ret
  exact ⟨rfl, rfl⟩

set_option maxHeartbeats 400000 in
theorem every78 (Z : List Int) (b cn cc n cap : Nat) (a ca : Option Addr) (w : World) (hL : Z.length = n) (hn : n ≤ maxLen) (hI : Ints w a Z) (hcn : cn ≤ 5) (h4 : w.cell? ⟨b, 4, none⟩ = some (.slice ca cn cc)) :
    Calls Try.prog 78 #[.slice a n cap, .func (.func 79) #[] #[.pointer (some ⟨b, 0, none⟩)]] w fun e w' => e = .returned (.bool (Z.all fun z => inB z 0 ((cn : Int) - 1))) ∧ w = w' := by
  have hn' := hn
  unfold maxLen at hn'
  have HL : Hid (Z.length = n) := hL
  clear hL
  go_enter Try.func78, Try.ntmps78
  go_wp2
  go_loop [9] (fun i => ∃ k : Nat, k ≤ n ∧ i = .int .i64 k ∧ Hid (∀ j, j < k → inB (Z.getD j 0) 0 ((cn : Int) - 1) = true)) (fun i => n - (intOf i).toNat)
  case atStart => exact ⟨0, Nat.zero_le _, rfl, fun _ h => by omega⟩
  case round =>
    obtain ⟨k, hk, rfl, hj⟩ := hrel
    by_cases hlt : k < n
    · obtain ⟨ba, off, rfl, hc⟩ := hI k (by rw [HL.out]; exact hlt)
      obtain ⟨z, hz⟩ : ∃ z, Z.getD k 0 = z := ⟨_, rfl⟩
      rw [hz] at hc
      have HZ := hid hz
      clear hz
      have gb := lt_of_cell hc
      go_wp2_with fail
      refine (st1_any (k : Int) z b cn cc ca w hcn h4).mono ?_
      rintro e w' ⟨rfl, rfl⟩
      cases hp : inB z 0 ((cn : Int) - 1)
      · have HP := hid hp
        clear hp
        go_wp2
        go_ret
        exact ⟨by rw [all_no (by rw [HL.out]; exact hlt) (by rw [HZ.out]; exact HP.out)]; rfl, rfl⟩
      · have HP := hid hp
        clear hp
        go_wp2
        go_round
        case rel => exact ⟨k + 1, by omega, by go_num, upto hj.out (by rw [HZ.out]; exact HP.out)⟩
        case measure => simp [intOf]; omega
    · go_wp2
      go_ret
      exact ⟨by rw [all_yes (fun j h => hj.out j (by rw [HL.out] at h; omega))]; rfl, rfl⟩

set_option maxHeartbeats 1000000 in
theorem staffs_any (Z : List Int) (len long short due delay : Int) (pa ca ta a : Option Addr) (pn pc cn cc tn tc n cap : Nat) (w : World) (hL : Z.length = n) (hn : n ≤ maxLen) (hI : Ints w a Z) (hcn : cn ≤ 5) (_ : tn ≤ 40) :
    Calls Try.prog 62 #[.agg #[.int .i64 len, .slice pa pn pc, .int .i64 long, .int .i64 short, .slice ca cn cc, .int .i64 due, .int .i64 delay, .slice ta tn tc], .slice a n cap] w fun e w' =>
      e = .returned (.bool (staffsM cn tn Z)) ∧ Below w.heap.size w w' := by
  have hn' := hn
  unfold maxLen at hn'
  obtain ⟨z, hz⟩ : ∃ z, staffsM cn tn Z = z := ⟨_, rfl⟩
  have HZ : Hid (z = (decide (n = tn) && Z.all fun z => inB z 0 ((cn : Int) - 1))) := hid (by rw [← hz, ← hL]; rfl)
  rw [hz]
  have HL := hid hL
  clear hL hz
  have hB : ∀ o, Below w.heap.size w (w.alloc o) := fun o => (Below.refl _ w).alloc (Nat.le_refl _) o
  by_cases hnt : n = tn
  · have hni : (n : Int) = (tn : Int) := by omega
    have HNT : Hid (decide (n = tn) = true) := hid (decide_eq_true hnt)
    clear hnt
    go_enter Try.func62, Try.ntmps62
    go_wp2_with (go_at_call 78; refine (every78 Z w.heap.size cn cc n cap a ca _ HL.out hn (hI.grown (hB _)) hcn (by simp)).mono ?_; rintro e w' ⟨rfl, rfl⟩)
    go_ret
    exact ⟨by rw [HZ.out, HNT.out]; simp, hB _⟩
  · have hni : ¬ (n : Int) = (tn : Int) := by omega
    have HNT : Hid (decide (n = tn) = false) := hid (decide_eq_false hnt)
    clear hnt
    go_enter Try.func62, Try.ntmps62
    go_wp2
    go_ret
    exact ⟨by rw [HZ.out, HNT.out]; rfl, hB _⟩

set_option maxRecDepth 100000 in
set_option maxHeartbeats 1000000 in
theorem listed_any (Z : List Int) (due delay : Int) (ca ta a : Option Addr) (cn cc tn tc n cap : Nat) (w : World) (hL : Z.length = n) (hn : n ≤ 1000000) (hI : Ints w a Z) (hcn : cn ≤ 1000000) (_ : tn ≤ 1000000) :
    Calls Try.prog 36 #[.agg #[.slice ca cn cc, .int .i64 due, .int .i64 delay], .slice ta tn tc, .slice a n cap] w fun e w' =>
      e = .returned (.bool (staffsM cn tn Z)) ∧ Below w.heap.size w w' := by
  obtain ⟨z, hz⟩ : ∃ z, staffsM cn tn Z = z := ⟨_, rfl⟩
  have HZ : Hid (z = (decide (n = tn) && Z.all fun z => inB z 0 ((cn : Int) - 1))) := hid (by rw [← hz, ← hL]; rfl)
  rw [hz]
  have HL := hid hL
  clear hL hz
  go_enter Try.func36, Try.ntmps36
  go_wp2_with fail
  obtain ⟨W0, hW0⟩ : ∃ W0, W0 = w.alloc (.cells #[.slice ca cn cc, .int .i64 due, .int .i64 delay] 27) := ⟨_, rfl⟩
  have hB0 : Below w.heap.size w W0 := by rw [hW0]; exact (Below.refl _ w).alloc (Nat.le_refl _) _
  have c0 : W0.cell? ⟨w.heap.size, 0, none⟩ = some (.slice ca cn cc) := by rw [hW0]; simp
  have z0 : W0.heap.size = w.heap.size + 1 := by rw [hW0]; simp
  rw [← hW0]
  clear hW0
  have hI0 := hI.grown hB0
  go_loopw [7] (fun i wr => ∃ k : Nat, k ≤ n ∧ i = .int .i64 k ∧ Hid (∀ j, j < k → inB (Z.getD j 0) 0 ((cn : Int) - 1) = true) ∧ Below W0.heap.size W0 wr) (fun i _ => n - (intOf i).toNat)
  case atStart => exact ⟨0, Nat.zero_le _, rfl, fun _ h => by omega, Below.refl _ _⟩
  case round =>
    obtain ⟨k, hk, rfl, hj, hB⟩ := hrel
    have hBw := hB0.trans (hB.mono (by omega))
    replace c0 := cell_grown hB c0
    by_cases hlt : k < n
    · obtain ⟨ba, off, rfl, hc⟩ := hI0 k (by rw [HL.out]; exact hlt)
      obtain ⟨x, hx⟩ : ∃ x, Z.getD k 0 = x := ⟨_, rfl⟩
      rw [hx] at hc
      have HX := hid hx
      clear hx
      replace hc := cell_grown hB hc
      have gb := lt_of_cell hc
      have gw := lt_of_cell c0
      have hkk : (k : Int) < n := by omega
      cases hp : inB x 0 ((cn : Int) - 1)
      · have HP := hid hp
        clear hp
        go_wp2_with fail
        go_big_quiet ((go_at_call 27; exact Calls.quiet_of_same ((in_any _ _ _ _).mono fun e w' h => ⟨h.1, h.2.symm⟩)))
        rw [HP.out]
        go_wp2
        go_ret
        exact ⟨by rw [HZ.out, all_no (by rw [HL.out]; exact hlt) (by rw [HX.out]; exact HP.out)]; simp, below_drewN hBw _⟩
      · have HP := hid hp
        clear hp
        go_wp2_with fail
        go_big_quiet ((go_at_call 27; exact Calls.quiet_of_same ((in_any _ _ _ _).mono fun e w' h => ⟨h.1, h.2.symm⟩)))
        rw [HP.out]
        go_wp2
        go_roundw
        case rel => exact ⟨k + 1, by omega, by go_num, upto hj.out (by rw [HX.out]; exact HP.out), below_drewN hB _⟩
        case measure => simp [intOf]; omega
    · have HA : Hid (z = decide (n = tn)) := hid (by rw [HZ.out, all_yes (fun j h => hj.out j (by rw [HL.out] at h; omega)), Bool.and_true])
      by_cases hnt : n = tn
      · have hni : (n : Int) = (tn : Int) := by omega
        go_wp2
        go_ret
        exact ⟨by rw [HA.out, decide_eq_true hnt]; rfl, hBw⟩
      · have hni : ((n : Int) == (tn : Int)) = false := by simp; omega
        go_wp2
        go_ret
        exact ⟨by rw [HA.out, decide_eq_false hnt]; rfl, hBw⟩

def flat1 (Z : List Int) : List Value := Z.map fun z => .int .i64 z

theorem ints_of_owns1 {W : World} {base : Nat} {e : TypeId} {a : Option Addr} {n cap : Nat} {Z : List Int} (hn : Z.length = n) (h : W.ownsRow base e 1 (.slice a n cap) n (flat1 Z)) : Ints W a Z := by
  subst hn
  intro i hi
  rcases h.2 with ⟨_, h0⟩ | ⟨g, cap', cur, hv, _, hg, _⟩
  · simp at h0; subst h0; simp at hi
  · simp only [Value.slice.injEq] at hv
    obtain ⟨rfl, -, -⟩ := hv
    have hc := h.cells (g := g) rfl
    have hadd : ∀ j, (⟨g, 0, none⟩ : Addr).add j = ⟨g, 0 + j, none⟩ := fun j => by unfold Addr.add; split <;> simp_all
    have c1 := hc i (.int .i64 (Z.getD i 0)) (by simp [flat1, List.getElem?_eq_getElem hi])
    rw [hadd] at c1
    exact ⟨g, 0, rfl, c1⟩

set_option maxRecDepth 100000 in
set_option maxHeartbeats 1000000 in
theorem list_any (Z : List Int) (n cap : Nat) (a : Option Addr) (w : World) (hL : Z.length = n) (hn : n ≤ 1000000) (hI : Ints w a Z) (hc : a = none → cap = 0) :
    Calls Try.prog 35 #[.slice a n cap] w fun e w' => ∃ v, e = .returned v ∧ w'.ownsRow w.heap.size 3 1 v n (flat1 Z) ∧ Below w.heap.size w w' := by
  obtain ⟨i3, hi3, hi3a, hi3b, hi3c⟩ := info_parts Try.info3
  have hown := World.ownsRow_nil (w := w) w.heap.size 3 1
  cases a with
  | none =>
    have hn0 : n = 0 := by
      cases n with
      | zero => rfl
      | succ n => obtain ⟨b, off, e, _⟩ := hI 0 (by omega); simp at e
    subst hn0
    have hc0 := hc rfl
    subst hc0
    have hz : Z = [] := List.eq_nil_of_length_eq_zero hL
    subst hz
    go_enter Try.func35, Try.ntmps35
    go_wp2_with (at_builtin; refine wpList_append_own_none rfl _ _ 53 rfl w.heap.size 3 i3 1 Try.underlying53 hi3 _ 0 _ rfl hown rfl ?_)
    go_ret
    exact ⟨_, rfl, hown, Below.refl _ _⟩
  | some ad =>
    have hnews : ∀ j u, (flat1 Z)[j]? = some u → w.cell? (ad.add j) = some u := by
      intro j u hj
      have hjl : j < Z.length := by
        have := List.getElem?_eq_some_iff.1 hj
        obtain ⟨h1, _⟩ := this
        simpa [flat1] using h1
      obtain ⟨b, off, e, hcl⟩ := hI j hjl
      simp only [Option.some.injEq] at e
      subst e
      have hadd : (⟨b, off, none⟩ : Addr).add j = ⟨b, off + j, none⟩ := by unfold Addr.add; split <;> simp_all
      rw [hadd, hcl, ← hj]
      simp [flat1, List.getElem?_eq_getElem hjl]
    have HN := hid hnews
    clear hnews
    go_enter Try.func35, Try.ntmps35
    go_wp2_with (at_builtin; refine wpList_append_own _ rfl _ _ 53 rfl w.heap.size 3 i3 (.int .i64 0) 1 8 Try.underlying53 hi3 hi3a hi3b hi3c rfl (by decide) _ 0 _ rfl hown ad n cap (flat1 Z) rfl (by simp [flat1]; exact hL) HN.out (fun x hx => by simp [flat1] at hx; obtain ⟨z, _, rfl⟩ := hx; rfl) (by unfold maxLen; omega) (by omega) (by omega) ?_; intro v' w3 hown' hgrow hnil; have hb3 := Below.grown (Below.refl w.heap.size w) hgrow (Nat.le_refl _) (fun k e => nomatch (show (none : Option Nat) = some k from e)))
    go_ret
    exact ⟨_, rfl, by simpa using hown', hb3⟩

end Go.Proofs.Ytgapbaelifcifaa

namespace Go.Proofs.Ytgapbaelifcifaa
open Go.RowKit

theorem run_append_none {P : Program} {w : World} (base : Nat) (t ty e : TypeId) (i : TypeInfo) (size c : Nat) (ht : P.underlying t = some (.slice e)) (hi : P.info? e = some i)
    (v : Value) (n : Nat) (xs : List Value) (hown : w.ownsRow base e size v n xs) :
    (Builtin.append_ #[t, t] ty #[v, .slice none 0 c]).run P w = .ok v w := by
  rcases hown.2 with ⟨rfl, rfl⟩ | ⟨g, cap, cur, rfl, _, _, hnc, _⟩
  · simp [Builtin.append_, run_underlying ht, sizeOf, typeInfo, hi, Builtin.lenOf, Builtin.firstCells]
  · simp [Builtin.append_, run_underlying ht, sizeOf, typeInfo, hi, Builtin.lenOf, Builtin.firstCells, hnc, storeCells]

theorem wpList_append_none {P : Program} {w : World} {ops : Array Oper} {rest : List Oper} {o : Oper} {a : Act} {Q : Exit → Act → World → Prop} (hgd : o.guard = none) (s x : Operand) (t : TypeId)
    (ho : o.op = .call { callee := .builtin .append, args := #[s, x], argTypes := #[t, t] })
    (base : Nat) (e : TypeId) (i : TypeInfo) (size c : Nat) (ht : P.underlying t = some (.slice e)) (hi : P.info? e = some i)
    (v : Value) (n : Nat) (xs : List Value) (hs : a.eval s = v) (hown : w.ownsRow base e size v n xs) (hx : a.eval x = .slice none 0 c)
    (h : wpList P ops Q rest (a.put o.dst v) w) : wpList P ops Q (o :: rest) a w := by
  refine wpList_plain hgd fun K hK => ?_
  have hrun := run_append_none (P := P) (w := w) base t o.type e i size c ht hi v n xs hown
  unfold Oper.wp
  simp [execOp, ho, resolve, invoke, builtin, hs, hx, hrun, Result.andThen]
  exact hK _ _ h

set_option maxRecDepth 100000 in
set_option maxHeartbeats 1000000 in
theorem list_free (Z : List Int) (n cap : Nat) (a : Option Addr) (w : World) (hL : Z.length = n) (hn : n ≤ 1000000) (hI : Ints w a Z) :
    Calls Try.prog 35 #[.slice a n cap] w fun e w' => ∃ v, e = .returned v ∧ w'.ownsRow w.heap.size 3 1 v n (flat1 Z) ∧ Below w.heap.size w w' := by
  cases a with
  | some ad => exact list_any Z n cap (some ad) w hL hn hI (fun h => by simp at h)
  | none =>
    obtain ⟨i3, hi3, -, -, -⟩ := info_parts Try.info3
    have hown := World.ownsRow_nil (w := w) w.heap.size 3 1
    have hn0 : n = 0 := by
      cases n with
      | zero => rfl
      | succ n => obtain ⟨b, off, e, _⟩ := hI 0 (by omega); simp at e
    subst hn0
    have hz : Z = [] := List.eq_nil_of_length_eq_zero hL
    subst hz
    go_enter Try.func35, Try.ntmps35
    go_wp2_with (at_builtin; refine wpList_append_none rfl _ _ 53 rfl w.heap.size 3 i3 1 cap Try.underlying53 hi3 _ 0 _ rfl hown rfl ?_)
    go_ret
    exact ⟨_, rfl, hown, Below.refl _ _⟩

end Go.Proofs.Ytgapbaelifcifaa
