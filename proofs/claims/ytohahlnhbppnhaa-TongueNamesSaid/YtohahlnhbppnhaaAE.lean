/- Tongue, the laws: what is small enough; copies of numbers. Tongue, the laws: copies of numbers. -/
import Derived.Test.YtohahlnhbppnhaaZ
import Derived.Laws.AppendOwnNone
namespace Go.Proofs.Ytohahlnhbppnhaa
open Go.RowKit
set_option linter.unusedSimpArgs false
set_option linter.unusedVariables false

/-- Has a sentence at most 15 marks? -/
def fewS (s : Sen) : Bool := decide (s.marks.length ≤ 15)

def fewM (L R : List Sen) : Bool := L.all fewS && (R.all fewS && (decide (L.length ≤ 22) && decide (R.length ≤ 22)))

set_option maxRecDepth 100000 in
set_option maxHeartbeats 1000000 in
theorem few_any (L R : List Sen) (n m nc mc : Nat) (la ra : Option Addr) (w : World) (hL : L.length = n) (hR : R.length = m) (hn : n ≤ 9223372036854775807) (hm : m ≤ 9223372036854775807) (hS : TextAt w la L) (hT : TextAt w ra R) :
    Calls Try.prog 16 #[.slice la n nc, .slice ra m mc] w fun e w' => e = .returned (.bool (fewM L R)) ∧ w' = w := by
  have HL := hid hL
  have HR := hid hR
  have HM : Hid (fewM L R = (L.all fewS && (R.all fewS && (decide (n ≤ 22) && decide (m ≤ 22))))) := hid (by rw [← hL, ← hR]; rfl)
  clear hL hR
  go_enter Try.func16, Try.ntmps16
  go_wp2_with fail
  go_loopw [5] (fun i wr => ∃ j : Nat, j ≤ n ∧ i = .int .i64 j ∧ Hid (∀ i, i < j → fewS (L.getD i default) = true) ∧ wr = w) (fun i _ => n - (intOf i).toNat)
  case atStart => exact ⟨0, Nat.zero_le _, rfl, hid (fun i hi => by omega), rfl⟩
  case round =>
    obtain ⟨j, hj, rfl, HK, rfl⟩ := hrel
    by_cases hlt : j < n
    · have hlt' : (j : Int) < n := by omega
      obtain ⟨b, off, ma, c, ea, e1, -, e3⟩ := hS j (by rw [HL.out]; exact hlt)
      subst ea
      obtain ⟨k, hk⟩ : ∃ k, (L.getD j default).marks.length = k := ⟨_, rfl⟩
      rw [hk] at e1
      have HF : Hid (fewS (L.getD j default) = decide (k ≤ 15)) := hid (by unfold fewS; rw [hk])
      clear e3 hk
      by_cases h15 : k ≤ 15
      · have h15' : ¬ (15 : Int) < (k : Int) := by omega
        have HV : Hid (fewS (L.getD j default) = true) := hid (by rw [HF.out]; simp [h15])
        clear h15
        go_wp2_with fail
        go_roundw
        case rel => exact ⟨j + 1, by omega, by go_num, hid (fun i hi => by
          by_cases e : i = j
          · subst e; exact HV.out
          · exact HK.out i (by omega)), by trivial⟩
        case measure => simp [intOf]; omega
      · have h15' : (15 : Int) < (k : Int) := by omega
        have hal : L.all fewS = false := allS_false (i := j) (by rw [HL.out]; exact hlt) (by rw [HF.out]; simp [h15])
        have HX : Hid (fewM L R = false) := hid (by rw [HM.out, hal]; rfl)
        clear h15 hal
        go_wp2_with fail
        go_ret
        exact ⟨by rw [HX.out]; rfl, rfl⟩
    · have hjn : j = n := by omega
      subst hjn
      have hal : L.all fewS = true := allS_true (fun i hi => HK.out i (by rw [← HL.out]; exact hi))
      have HX : Hid (fewM L R = (R.all fewS && (decide (j ≤ 22) && decide (m ≤ 22)))) := hid (by rw [HM.out, hal]; rfl)
      clear hal
      go_wp2_with fail
      go_loopw [6] (fun i wr2 => ∃ q : Nat, q ≤ m ∧ i = .int .i64 q ∧ Hid (∀ i, i < q → fewS (R.getD i default) = true) ∧ wr2 = wr) (fun i _ => m - (intOf i).toNat)
      case atStart => exact ⟨0, Nat.zero_le _, rfl, hid (fun i hi => by omega), rfl⟩
      case round =>
        obtain ⟨q, hq, rfl, HQ, rfl⟩ := hrel
        by_cases hlt2 : q < m
        · have hlt2' : (q : Int) < m := by omega
          obtain ⟨b, off, ma, c, ea, e1, -, e3⟩ := hT q (by rw [HR.out]; exact hlt2)
          subst ea
          obtain ⟨k, hk⟩ : ∃ k, (R.getD q default).marks.length = k := ⟨_, rfl⟩
          rw [hk] at e1
          have HF : Hid (fewS (R.getD q default) = decide (k ≤ 15)) := hid (by unfold fewS; rw [hk])
          clear e3 hk
          by_cases h15 : k ≤ 15
          · have h15' : ¬ (15 : Int) < (k : Int) := by omega
            have HV : Hid (fewS (R.getD q default) = true) := hid (by rw [HF.out]; simp [h15])
            clear h15
            go_wp2_with fail
            go_roundw
            case rel => exact ⟨q + 1, by omega, by go_num, hid (fun i hi => by
              by_cases e : i = q
              · subst e; exact HV.out
              · exact HQ.out i (by omega)), by trivial⟩
            case measure => simp [intOf]; omega
          · have h15' : (15 : Int) < (k : Int) := by omega
            have hal : R.all fewS = false := allS_false (i := q) (by rw [HR.out]; exact hlt2) (by rw [HF.out]; simp [h15])
            have HY : Hid (fewM L R = false) := hid (by rw [HX.out, hal]; rfl)
            clear h15 hal
            go_wp2_with fail
            go_ret
            exact ⟨by rw [HY.out]; rfl, rfl⟩
        · have hqm : q = m := by omega
          subst hqm
          have hal : R.all fewS = true := allS_true (fun i hi => HQ.out i (by rw [← HR.out]; exact hi))
          have HY : Hid (fewM L R = (decide (j ≤ 22) && decide (q ≤ 22))) := hid (by rw [HX.out, hal]; rfl)
          clear hal
          by_cases h1 : j ≤ 22
          · have h1' : (j : Int) ≤ 22 := by omega
            by_cases h2 : q ≤ 22
            · have h2' : (q : Int) ≤ 22 := by omega
              have HZ : Hid (fewM L R = true) := hid (by rw [HY.out]; simp [h1, h2])
              go_wp2_with fail
              go_ret
              exact ⟨by rw [HZ.out]; rfl, rfl⟩
            · have h2' : ¬ (q : Int) ≤ 22 := by omega
              have HZ : Hid (fewM L R = false) := hid (by rw [HY.out]; simp [h2])
              go_wp2_with fail
              go_ret
              exact ⟨by rw [HZ.out]; rfl, rfl⟩
          · have h1' : ¬ (j : Int) ≤ 22 := by omega
            have HZ : Hid (fewM L R = false) := hid (by rw [HY.out]; simp [h1])
            go_wp2_with fail
            go_ret
            exact ⟨by rw [HZ.out]; rfl, rfl⟩

end Go.Proofs.Ytohahlnhbppnhaa

namespace Go.Proofs.Ytohahlnhbppnhaa
open Go.RowKit
set_option linter.unusedSimpArgs false
set_option linter.unusedVariables false

theorem run_append_none {P : Program} {w : World} (base : Nat) (t ty e : TypeId) (i : TypeInfo) (size c : Nat) (ht : P.underlying t = some (.slice e)) (hi : P.info? e = some i)
    (v : Value) (n : Nat) (xs : List Value) (hown : w.ownsRow base e size v n xs) :
    (Builtin.append_ #[t, t] ty #[v, .slice none 0 c]).run P w = .ok v w := by
  rcases hown.2 with ⟨rfl, rfl⟩ | ⟨g, cap, cur, rfl, _, _, hnc, _⟩
  · simp [Builtin.append_, run_underlying ht, sizeOf, typeInfo, hi, Builtin.lenOf, Builtin.firstCells]
  · simp [Builtin.append_, run_underlying ht, sizeOf, typeInfo, hi, Builtin.lenOf, Builtin.firstCells, hnc, storeCells]

theorem wpList_append_nothing {P : Program} {w : World} {ops : Array Oper} {rest : List Oper} {o : Oper} {a : Act} {Q : Exit → Act → World → Prop} (hgd : o.guard = none) (s x : Operand) (t : TypeId)
    (ho : o.op = .call { callee := .builtin .append, args := #[s, x], argTypes := #[t, t] })
    (base : Nat) (e : TypeId) (i : TypeInfo) (size c : Nat) (ht : P.underlying t = some (.slice e)) (hi : P.info? e = some i)
    (v : Value) (n : Nat) (xs : List Value) (hs : a.eval s = v) (hown : w.ownsRow base e size v n xs) (hx : a.eval x = .slice none 0 c)
    (h : wpList P ops Q rest (a.put o.dst v) w) : wpList P ops Q (o :: rest) a w := by
  refine wpList_plain hgd fun K hK => ?_
  have hrun := run_append_none (P := P) (w := w) base t o.type e i size c ht hi v n xs hown
  unfold Oper.wp
  simp [execOp, ho, resolve, invoke, builtin, hs, hx, hrun, Result.andThen]
  exact hK _ _ h

/-- Numbers, appended to a row of the call's own. -/
theorem wpList_append_ints {P : Program} {w : World} {ops : Array Oper} {rest : List Oper} {o : Oper} {a : Act} {Q : Exit → Act → World → Prop} (hgd : o.guard = none) (s x : Operand) (t : TypeId)
    (ho : o.op = .call { callee := .builtin .append, args := #[s, x], argTypes := #[t, t] })
    (base : Nat) (i : TypeInfo) (ht : P.underlying t = some (.slice 3)) (hi : P.info? 3 = some i) (hz : i.zero = some (.int .i64 0)) (hsize : i.size = 1) (hby : i.bytes = 8)
    (v : Value) (n : Nat) (xs : List Value) (hs : a.eval s = v) (hown : w.ownsRow base 3 1 v n xs) (za : Option Addr) (m c : Nat) (Z : List Int) (hx : a.eval x = .slice za m c) (hl : Z.length = m) (hI : IntsAt w za Z)
    (h63 : n + m ≤ 1000000) (hbase : base ≤ w.heap.size)
    (h : ∀ v' w', w'.ownsRow base 3 1 v' (n + m) (xs ++ Z.map fun z => .int .i64 z) → w.grownBy w' v.ownBlock → wpList P ops Q rest (a.put o.dst v') w') : wpList P ops Q (o :: rest) a w := by
  cases za with
  | none =>
    have hm : m = 0 := by
      cases m with
      | zero => rfl
      | succ m => obtain ⟨b, off, e, _⟩ := hI 0 (by omega); simp at e
    subst hm
    have hZ : Z = [] := List.eq_nil_of_length_eq_zero hl
    subst hZ
    exact wpList_append_nothing hgd s x t ho base 3 i 1 c ht hi v n xs hs hown hx (h v w (by simpa using hown) (World.grownBy.refl _ _))
  | some ad =>
    have hnews : ∀ j u, (Z.map fun z => Value.int .i64 z)[j]? = some u → w.cell? (ad.add j) = some u := by
      intro j u hj
      have hjl : j < Z.length := by
        obtain ⟨h1, _⟩ := List.getElem?_eq_some_iff.1 hj
        simpa using h1
      obtain ⟨b, off, e, hcl⟩ := hI j hjl
      simp only [Option.some.injEq] at e
      subst e
      have hadd : (⟨b, off, none⟩ : Addr).add j = ⟨b, off + j, none⟩ := by unfold Addr.add; split <;> simp_all
      rw [hadd, hcl, ← hj]
      simp [List.getElem?_eq_getElem hjl]
    exact wpList_append_own_at w hgd s x t ho base 3 i (.int .i64 0) 1 8 ht hi hz hsize hby rfl (by decide) v n xs hs hown ad m c _ hx (by simp [hl]) hnews (fun x hx => by
      simp only [List.mem_map] at hx
      obtain ⟨y, _, rfl⟩ := hx
      rfl) (by unfold maxLen; omega) (by omega) hbase (fun v' w' h1 h2 _ _ => h v' w' h1 h2)

set_option maxRecDepth 100000 in
set_option maxHeartbeats 1000000 in
theorem list_any (Z : List Int) (n cap : Nat) (a : Option Addr) (w : World) (hL : Z.length = n) (hn : n ≤ 1000000) (hI : IntsAt w a Z) :
    Calls Try.prog 54 #[.slice a n cap] w fun e w' => ∃ b c, e = .returned (.slice b n c) ∧ IntsAt w' b Z ∧ (∀ ad, b = some ad → w.heap.size ≤ ad.block ∧ ad.block < w'.heap.size) ∧ Below w.heap.size w w' := by
  obtain ⟨i0, hi0, hz0, hz1, hz2⟩ := info_parts Try.info3
  have hown := World.ownsRow_made (base := w.heap.size) (e := 3) (size := 1) w #[] 0 (Nat.le_refl _) (Nat.zero_le _) rfl
  have hb0 := below_alloc w (.cells #[] 3)
  have hI0 := hI.grown hb0
  have HL := hid hL
  clear hL hI
  go_enter Try.func54, Try.ntmps54
  go_wp2_with (at_builtin; refine wpList_append_ints rfl _ _ 41 rfl w.heap.size i0 Try.underlying41 hi0 hz0 hz1 hz2 _ 0 _ rfl hown a n cap Z rfl HL.out hI0 (by omega) hb0.size ?_; intro v' w' hown' hg)
  rw [Nat.zero_add, List.nil_append] at hown'
  obtain ⟨ra, rc, rfl⟩ := owns_shape hown'
  have hin := ints_of_owns (L := Z) (a := ra) (cap := rc) (W := w') (e := 3) (base := w.heap.size) (by rw [HL.out]; exact hown')
  have hg' : (w.alloc (.cells #[] 3)).grownBy w' (some w.heap.size) := hg
  have hb : Below w.heap.size w w' := hb0.grown hg' hb0.size (fun r e => by cases e; exact Nat.le_refl _)
  have hfr : ∀ ad, ra = some ad → w.heap.size ≤ ad.block ∧ ad.block < w'.heap.size := fun ad e => by
    rcases hown'.2 with ⟨hv, -⟩ | ⟨g, cap', cur, hv, -⟩
    · simp only [Value.slice.injEq] at hv
      rw [hv.1] at e
      cases e
    · simp only [Value.slice.injEq] at hv
      rw [hv.1] at e
      cases e
      exact hown'.lt g (by rw [hv.1]; rfl)
  clear hg hg' hown'
  go_ret
  exact ⟨ra, rc, rfl, hin, hfr, hb⟩

end Go.Proofs.Ytohahlnhbppnhaa
