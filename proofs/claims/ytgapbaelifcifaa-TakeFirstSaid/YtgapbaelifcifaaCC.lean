/- Contracts of the law's spans, ints. -/
import Derived.Test.YtgapbaelifcifaaD
import Derived.Test.YtgapbaelifcifaaW
import Derived.Deep.QuietTactic
import Derived.BigQuiet
namespace Go.Proofs.Ytgapbaelifcifaa
open Go.RowKit

theorem eq_of_getD {α : Type} {d : α} {X Y : List α} (hl : X.length = Y.length) (h : ∀ j, j < X.length → X.getD j d = Y.getD j d) : X = Y := by
  apply List.ext_getElem hl
  intro i h1 h2
  have := h i h1
  rw [List.getD_eq_getElem?_getD, List.getD_eq_getElem?_getD, List.getElem?_eq_getElem h1, List.getElem?_eq_getElem h2] at this
  simpa using this

set_option maxRecDepth 100000 in
set_option maxHeartbeats 1000000 in
theorem ints_any (X Y : List Int) (n m c1 c2 : Nat) (a b : Option Addr) (w : World) (hX : X.length = n) (hY : Y.length = m) (hn : n ≤ maxLen) (hm : m ≤ maxLen) (hIX : Ints w a X) (hIY : Ints w b Y) :
    Calls Try.prog 34 #[.slice a n c1, .slice b m c2] w fun e w' => e = .returned (.bool (decide (X = Y))) ∧ Below w.heap.size w w' := by
  have hn' := hn
  have hm' := hm
  unfold maxLen at hn' hm'
  have HX := hid hX
  have HY := hid hY
  clear hX hY
  by_cases hnm : n = m
  · subst hnm
    go_enter Try.func34, Try.ntmps34
    go_wp2
    go_loopw [5] (fun i wr => ∃ k : Nat, k ≤ n ∧ i = .int .i64 k ∧ Hid (∀ j, j < k → X.getD j 0 = Y.getD j 0) ∧ ∃ q, wr = w.drewN q) (fun i _ => n - (intOf i).toNat)
    case atStart => exact ⟨0, Nat.zero_le _, rfl, fun _ h => by omega, 0, rfl⟩
    case round =>
      obtain ⟨k, hk, rfl, hj, q, rfl⟩ := hrel
      by_cases hlt : k < n
      · obtain ⟨bx, ox, rfl, e1⟩ := hIX k (by rw [HX.out]; exact hlt)
        obtain ⟨by', oy, rfl, e2⟩ := hIY k (by rw [HY.out]; exact hlt)
        have hkk : (k : Int) < n := by omega
        have HC : Hid (X.getD k 0 = X.getD k 0) := rfl
        obtain ⟨x, hx⟩ : ∃ x, X.getD k 0 = x := ⟨_, rfl⟩
        obtain ⟨y, hy⟩ : ∃ y, Y.getD k 0 = y := ⟨_, rfl⟩
        rw [hx] at e1
        rw [hy] at e2
        have HXY := hid (And.intro hx hy)
        have gb1 := lt_of_cell e1
        have gb2 := lt_of_cell e2
        clear hx hy HC
        by_cases hxy : x = y
        · subst hxy
          go_wp2_with fail
          go_quiet (fail)
          go_wp2
          go_roundw
          case rel => exact ⟨k + 1, by omega, by go_num, fun j hjj => by by_cases e : j = k; · rw [e, HXY.out.1, HXY.out.2]
                                                                         · exact hj.out j (by omega), _, rfl⟩
          case measure => simp [intOf]; omega
        · have hne := hxy
          go_wp2_with fail
          go_quiet (fail)
          go_wp2
          go_ret
          exact ⟨by rw [decide_eq_false (fun e => hne (by rw [← HXY.out.1, ← HXY.out.2, e]))]; rfl, below_drewN (below_drewN (Below.refl _ _) _) _⟩
      · go_wp2
        go_ret
        exact ⟨by rw [decide_eq_true (eq_of_getD (by rw [HX.out, HY.out]) (fun j hjj => hj.out j (by rw [HX.out] at hjj; omega)))]; rfl, below_drewN (Below.refl _ _) _⟩
  · go_enter Try.func34, Try.ntmps34
    go_wp2
    go_ret
    exact ⟨by rw [decide_eq_false (fun e => hnm (by rw [← HX.out, ← HY.out, e]))]; rfl, Below.refl _ _⟩

set_option maxRecDepth 100000 in
set_option maxHeartbeats 1000000 in
theorem spans_any (X Y : List (Int × Int)) (n m c1 c2 : Nat) (a b : Option Addr) (w : World) (hX : X.length = n) (hY : Y.length = m) (hn : n ≤ maxLen) (hm : m ≤ maxLen) (hIX : Spans w a X) (hIY : Spans w b Y) :
    Calls Try.prog 26 #[.slice a n c1, .slice b m c2] w fun e w' => e = .returned (.bool (decide (X = Y))) ∧ Below w.heap.size w w' := by
  have hn' := hn
  have hm' := hm
  unfold maxLen at hn' hm'
  have HX := hid hX
  have HY := hid hY
  clear hX hY
  by_cases hnm : n = m
  · subst hnm
    go_enter Try.func26, Try.ntmps26
    go_wp2
    go_loopw [5] (fun i wr => ∃ k : Nat, k ≤ n ∧ i = .int .i64 k ∧ Hid (∀ j, j < k → X.getD j (0, 0) = Y.getD j (0, 0)) ∧ ∃ q, wr = w.drewN q) (fun i _ => n - (intOf i).toNat)
    case atStart => exact ⟨0, Nat.zero_le _, rfl, fun _ h => by omega, 0, rfl⟩
    case round =>
      obtain ⟨k, hk, rfl, hj, q, rfl⟩ := hrel
      by_cases hlt : k < n
      · obtain ⟨bx, ox, rfl, e1, f1⟩ := hIX k (by rw [HX.out]; exact hlt)
        obtain ⟨by', oy, rfl, e2, f2⟩ := hIY k (by rw [HY.out]; exact hlt)
        have hkk : (k : Int) < n := by omega
        obtain ⟨x, hx⟩ : ∃ x, X.getD k (0, 0) = x := ⟨_, rfl⟩
        obtain ⟨y, hy⟩ : ∃ y, Y.getD k (0, 0) = y := ⟨_, rfl⟩
        rw [hx] at e1 f1
        rw [hy] at e2 f2
        have HXY := hid (And.intro hx hy)
        obtain ⟨x1, x2⟩ := x
        obtain ⟨y1, y2⟩ := y
        simp only at e1 e2 f1 f2
        have gb1 := lt_of_cell e1
        have gb2 := lt_of_cell e2
        clear hx hy
        by_cases hx1 : x1 = y1
        · subst hx1
          by_cases hx2 : x2 = y2
          · subst hx2
            go_wp2_with fail
            go_quiet (fail)
            go_wp2
            go_roundw
            case rel => exact ⟨k + 1, by omega, by go_num, fun j hjj => by by_cases e : j = k; · rw [e, HXY.out.1, HXY.out.2]
                                                                           · exact hj.out j (by omega), _, rfl⟩
            case measure => simp [intOf]; omega
          · go_wp2_with fail
            go_quiet (fail)
            go_wp2
            go_ret
            exact ⟨by rw [decide_eq_false (fun e => hx2 (by have := HXY.out.1.symm.trans ((by rw [e] : X.getD k (0, 0) = Y.getD k (0, 0)).trans HXY.out.2); simpa using this))]; rfl, below_drewN (below_drewN (Below.refl _ _) _) _⟩
        · go_wp2_with fail
          go_quiet (fail)
          go_wp2
          go_ret
          exact ⟨by rw [decide_eq_false (fun e => hx1 (by have := HXY.out.1.symm.trans ((by rw [e] : X.getD k (0, 0) = Y.getD k (0, 0)).trans HXY.out.2); simp at this; exact this.1))]; rfl, below_drewN (below_drewN (Below.refl _ _) _) _⟩
      · go_wp2
        go_ret
        exact ⟨by rw [decide_eq_true (eq_of_getD (by rw [HX.out, HY.out]) (fun j hjj => hj.out j (by rw [HX.out] at hjj; omega)))]; rfl, below_drewN (Below.refl _ _) _⟩
  · go_enter Try.func26, Try.ntmps26
    go_wp2
    go_ret
    exact ⟨by rw [decide_eq_false (fun e => hnm (by rw [← HX.out, ← HY.out, e]))]; rfl, Below.refl _ _⟩


end Go.Proofs.Ytgapbaelifcifaa
