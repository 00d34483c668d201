/- Tongue: terms, each of them valid. -/
import Derived.Test.YtohahlnhbppnhaaZ
import Derived.Test.YtohahlnhbppnhaaA
namespace Go.Proofs.Ytohahlnhbppnhaa
open Go.RowKit
set_option linter.unusedSimpArgs false
set_option linter.unusedVariables false

/-- A term, as the laws have it. -/
structure Trm where
  mark : Int
  left : ByteArray
  right : ByteArray

instance : Inhabited Trm := ⟨⟨0, ByteArray.empty, ByteArray.empty⟩⟩

def nameOk (s : ByteArray) : Bool := inB (s.size : Int) 1 20
def trmOk (t : Trm) : Bool := inB t.mark 0 999 && (nameOk t.left && nameOk t.right)

def TrmsAt (w : World) (a : Option Addr) (T : List Trm) : Prop :=
  ∀ i, i < T.length → ∃ b off, a = some ⟨b, off, none⟩ ∧ w.cell? ⟨b, off + i * 3, none⟩ = some (.int .i64 (T.getD i default).mark) ∧ w.cell? ⟨b, off + i * 3 + 1, none⟩ = some (.string (T.getD i default).left) ∧ w.cell? ⟨b, off + i * 3 + 2, none⟩ = some (.string (T.getD i default).right)

theorem TrmsAt.grown {w w' : World} {a : Option Addr} {T : List Trm} (h : TrmsAt w a T) (hb : Below w.heap.size w w') : TrmsAt w' a T := fun i hi => by
  obtain ⟨b, off, e, c0, c1, c2⟩ := h i hi
  exact ⟨b, off, e, cell_grown hb c0, cell_grown hb c1, cell_grown hb c2⟩

set_option maxHeartbeats 400000 in
theorem name_any (s : ByteArray) (w : World) : Calls Try.prog 104 #[.string s] w fun e w' => e = .returned (.bool (nameOk s)) ∧ Below w.heap.size w w' := by
  have hw := fun W => within_any (s.size : Int) 1 20 W
  unfold nameOk
  generalize inB (s.size : Int) 1 20 = v at hw ⊢
  go_enter Try.func104, Try.ntmps104
  go_wp2_with (go_at_call 69; refine (hw _).mono ?_; rintro e w' ⟨rfl, rfl⟩)
  go_ret
  exact ⟨rfl, Below.refl _ _⟩

set_option maxHeartbeats 1000000 in
theorem trm_any (m : Int) (l r : ByteArray) (w : World) : Calls Try.prog 74 #[.agg #[.int .i64 m, .string l, .string r]] w fun e w' => e = .returned (.bool (trmOk ⟨m, l, r⟩)) ∧ Below w.heap.size w w' := by
  have hb0 := below_alloc w (.cells #[.int .i64 m, .string l, .string r] 94)
  have hw := fun W => within_any m 0 999 W
  have hl := fun W => name_any l W
  have hr := fun W => name_any r W
  unfold trmOk
  simp only
  generalize inB m 0 999 = p at hw ⊢
  generalize nameOk l = q at hl ⊢
  generalize nameOk r = u at hr ⊢
  obtain ⟨W0, hW0⟩ : ∃ X, X = w.alloc (.cells #[.int .i64 m, .string l, .string r] 94) := ⟨_, rfl⟩
  rw [← hW0] at hb0
  have c1 : W0.cell? ⟨w.heap.size, 1, none⟩ = some (.string l) := by rw [hW0]; simp
  have c2 : W0.cell? ⟨w.heap.size, 2, none⟩ = some (.string r) := by rw [hW0]; simp
  have g0 := lt_of_cell c1
  subst hW0
  cases p
  · go_enter Try.func74, Try.ntmps74
    go_wp2_with (go_at_call 69; refine (hw _).mono ?_; rintro e w' ⟨rfl, rfl⟩)
    go_ret
    exact ⟨by simp, hb0⟩
  · cases q
    · go_enter Try.func74, Try.ntmps74
      go_wp2_with (first | (go_at_call 69; refine (hw _).mono ?_; rintro e w' ⟨rfl, rfl⟩) | (go_at_call 104; refine (hl _).mono ?_; rintro e w1 ⟨rfl, hb1⟩))
      go_ret
      exact ⟨by simp, below_then hb0 hb1⟩
    · go_enter Try.func74, Try.ntmps74
      go_wp2_with (first | (go_at_call 69; refine (hw _).mono ?_; rintro e w' ⟨rfl, rfl⟩) | (go_at_call_has 104 l; refine (hl _).mono ?_; rintro e w1 ⟨rfl, hb1⟩; replace c2 := cell_grown hb1 c2; have g1 := lt_of_cell c2) | (go_at_call_has 104 r; refine (hr _).mono ?_; rintro e w2 ⟨rfl, hb2⟩))
      go_ret
      exact ⟨by simp, below_then hb0 (below_then hb1 hb2)⟩

theorem allT_true {p : Trm → Bool} {T : List Trm} (h : ∀ i, i < T.length → p (T.getD i default) = true) : T.all p = true := by
  rw [List.all_eq_true]
  intro x hx
  obtain ⟨i, hi, rfl⟩ := List.mem_iff_getElem.1 hx
  have := h i hi
  rwa [List.getD_eq_getElem?_getD, List.getElem?_eq_getElem hi, Option.getD_some] at this

theorem allT_false {p : Trm → Bool} {T : List Trm} {i : Nat} (hi : i < T.length) (h : p (T.getD i default) = false) : T.all p = false := by
  cases hv : T.all p
  · rfl
  · rw [List.all_eq_true] at hv
    rw [hv (T.getD i default) (by rw [List.getD_eq_getElem?_getD, List.getElem?_eq_getElem hi]; exact List.getElem_mem _)] at h
    cases h

set_option maxHeartbeats 400000 in
theorem trm1_any (m : Int) (l r : ByteArray) (fb : Nat) (w : World) (hf : w.cell? ⟨fb, 0, none⟩ = some (.func (.func 74) #[] #[])) :
    Calls Try.prog 103 #[.agg #[.int .i64 m, .string l, .string r], .pointer (some ⟨fb, 0, none⟩)] w fun e w' => e = .returned (.bool (!trmOk ⟨m, l, r⟩)) ∧ Below w.heap.size w w' := by
  have hfb := lt_of_cell hf
  have hB : ∀ o, Below w.heap.size w (w.alloc o) := fun o => below_alloc w o
  have hp := trm_any m l r (w.alloc (.cells #[.int .i64 m, .string l, .string r] 94))
  go_enter Try.func103, Try.ntmps103
  go_wp2_with fail
  refine hp.mono ?_
  rintro e w' ⟨rfl, hb⟩
  go_wp2_with fail
  go_ret
  exact ⟨rfl, (hB _).trans (hb.mono (by simp))⟩

set_option maxRecDepth 100000 in
set_option maxHeartbeats 1000000 in
theorem trm_index (T : List Trm) (n cap fb : Nat) (a : Option Addr) (w : World) (hT : T.length = n) (hn : n ≤ 1000000) (hS : TrmsAt w a T) (hf : w.cell? ⟨fb, 0, none⟩ = some (.func (.func 74) #[] #[])) :
    Calls Try.prog 126 #[.slice a n cap, .func (.func 103) #[] #[.pointer (some ⟨fb, 0, none⟩)]] w fun e w' => ∃ z : Int, e = .returned (.int .i64 z) ∧ Below w.heap.size w w' ∧ Hid (decide (0 ≤ z) = !T.all trmOk) := by
  have HT := hid hT
  clear hT
  go_enter Try.func126, Try.ntmps126
  go_wp2_with fail
  go_loopw [8] (fun i wr => ∃ j : Nat, j ≤ n ∧ i = .int .i64 j ∧ Hid (∀ i, i < j → trmOk (T.getD i default) = true) ∧ Below w.heap.size w wr) (fun i _ => n - (intOf i).toNat)
  case atStart => exact ⟨0, Nat.zero_le _, rfl, hid (fun i hi => by omega), Below.refl _ _⟩
  case round =>
    obtain ⟨j, hj, rfl, HK, hB⟩ := hrel
    by_cases hlt : j < n
    · have hjj : (j : Int) < n := by omega
      obtain ⟨b, off, ea, e0, e1, e2⟩ := hS j (by rw [HT.out]; exact hlt)
      subst ea
      replace e0 := cell_grown hB e0
      replace e1 := cell_grown hB e1
      replace e2 := cell_grown hB e2
      have gb := lt_of_cell e1
      have hcall := trm1_any (T.getD j default).mark (T.getD j default).left (T.getD j default).right fb wr (cell_grown hB hf)
      obtain ⟨r, hr⟩ : ∃ r, trmOk (T.getD j default) = r := ⟨_, rfl⟩
      have hr' : trmOk ⟨(T.getD j default).mark, (T.getD j default).left, (T.getD j default).right⟩ = r := hr
      rw [hr'] at hcall
      have HR := hid hr
      clear hr hr'
      generalize (T.getD j default).mark = m at e0 hcall
      generalize (T.getD j default).left = x at e1 hcall
      generalize (T.getD j default).right = y at e2 hcall
      go_wp2_with fail
      refine hcall.mono ?_
      cases hv : r
      · rintro e w' ⟨rfl, hb⟩
        have hal : T.all trmOk = false := allT_false (i := j) (by rw [HT.out]; exact hlt) (by rw [HR.out, hv])
        have HAL := hid hal
        clear hv hal
        go_wp2_with fail
        go_ret
        exact ⟨j, rfl, below_then hB hb, hid (by rw [HAL.out]; simp)⟩
      · rintro e w' ⟨rfl, hb⟩
        have HV : Hid (trmOk (T.getD j default) = true) := hid (by rw [HR.out, hv])
        clear hv
        go_wp2_with fail
        go_roundw
        case rel => exact ⟨j + 1, by omega, by go_num, hid (fun i hi => by
          by_cases e : i = j
          · subst e; exact HV.out
          · exact HK.out i (by omega)), below_then hB hb⟩
        case measure => simp [intOf]; omega
    · have hjn : j = n := by omega
      subst hjn
      have hal : T.all trmOk = true := allT_true (fun i hi => HK.out i (by rw [← HT.out]; exact hi))
      have HAL := hid hal
      clear hal
      go_wp2_with fail
      go_ret
      exact ⟨-1, rfl, hB, hid (by rw [HAL.out]; rfl)⟩

set_option maxHeartbeats 400000 in
theorem trm_all (T : List Trm) (n cap : Nat) (a : Option Addr) (w : World) (hT : T.length = n) (hn : n ≤ 1000000) (hS : TrmsAt w a T) :
    Calls Try.prog 73 #[.slice a n cap, .func (.func 74) #[] #[]] w fun e w' => e = .returned (.bool (T.all trmOk)) ∧ Below w.heap.size w w' := by
  have hB : Below w.heap.size w (w.alloc (.cells #[.func (.func 74) #[] #[]] 142)) := below_alloc _ _
  have hc : Calls Try.prog 102 #[.slice a n cap, .func (.func 103) #[] #[.pointer (some ⟨w.heap.size, 0, none⟩)]] (w.alloc (.cells #[.func (.func 74) #[] #[]] 142)) fun e w' => e = .returned (.bool (!T.all trmOk)) ∧ Below (w.alloc (.cells #[.func (.func 74) #[] #[]] 142)).heap.size (w.alloc (.cells #[.func (.func 74) #[] #[]] 142)) w' := by
    have hi := trm_index T n cap w.heap.size a _ hT hn (hS.grown hB) (by simp [go_sem])
    go_enter Try.func102, Try.ntmps102
    go_wp2_with fail
    refine hi.mono ?_
    rintro e w' ⟨z, rfl, hb, hz⟩
    have HZ := hid hz.out
    clear hz
    go_wp2_with fail
    go_ret
    exact ⟨by rw [← HZ.out]; simp, hb⟩
  go_enter Try.func73, Try.ntmps73
  go_wp2_with fail
  refine hc.mono ?_
  rintro e w' ⟨rfl, hb⟩
  go_wp2_with fail
  go_ret
  exact ⟨by simp, hB.trans (hb.mono hB.size)⟩

def agreeB (a b : Trm) : Bool := (a.mark == b.mark && (a.left.toList == b.left.toList && a.right.toList == b.right.toList)) || ((a.mark != b.mark && !a.left.toList == b.left.toList) && !a.right.toList == b.right.toList)

set_option maxHeartbeats 1000000 in
theorem agrees_any (a b : Trm) (w : World) : Calls Try.prog 105 #[.agg #[.int .i64 a.mark, .string a.left, .string a.right], .agg #[.int .i64 b.mark, .string b.left, .string b.right]] w fun e w' => e = .returned (.bool (agreeB a b)) ∧ Below w.heap.size w w' := by
  obtain ⟨m, l, r⟩ := a
  obtain ⟨m', l', r'⟩ := b
  go_enter Try.func105, Try.ntmps105
  go_wp2_with fail
  all_goals
    have hbb : ∀ X Y, Below w.heap.size w ((w.alloc (.cells X 94)).alloc (.cells Y 94)) := fun X Y => ((Below.refl w.heap.size w).alloc (Nat.le_refl _) _).alloc (by simp) _
    go_ret
    exact ⟨by simp [agreeB, *], hbb _ _⟩

end Go.Proofs.Ytohahlnhbppnhaa
