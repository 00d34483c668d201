/- Tongue: the least of some numbers. -/
import Derived.Test.YtohahlnhbppnhaaB
namespace Go.Proofs.Ytohahlnhbppnhaa
open Go.RowKit
set_option linter.unusedSimpArgs false
set_option linter.unusedVariables false

/-- The least number; where there is none, 0. -/
def minL : List Int → Int
  | [] => 0
  | x :: L => L.foldl min x

theorem min_if (y z : Int) : (if y < z then y else z) = min z y := by
  rw [Int.min_def]
  split <;> split <;> omega

set_option maxRecDepth 100000 in
set_option maxHeartbeats 1000000 in
theorem min_any (x : Int) (L : List Int) (n cap : Nat) (a : Option Addr) (w : World) (hL : (x :: L).length = n) (hn : n ≤ 1000) (hS : IntsAt w a (x :: L)) :
    Calls Try.prog 132 #[.slice a n cap] w fun e w' => e = .returned (.int .i64 (minL (x :: L))) ∧ Below w.heap.size w w' := by
  have h1 : 1 ≤ n := by rw [← hL]; simp
  have h1' : (1 : Int) ≤ (n : Int) := by omega
  have h0 : 0 < n := by omega
  have HL := hid hL
  obtain ⟨b, off, ea, e0⟩ := hS 0 (by rw [hL]; omega)
  subst ea
  have gb := lt_of_cell e0
  simp only [List.getD_cons_zero, Nat.add_zero] at e0
  clear hL
  go_enter Try.func132, Try.ntmps132
  go_wp2_with fail
  go_loopw [3, 4] (fun c j wr => ∃ m : Nat, 1 ≤ m ∧ m ≤ n ∧ j = .int .i64 m ∧ c = .int .i64 ((L.take (m - 1)).foldl min x) ∧ Below w.heap.size w wr) (fun _ j _ => n - (intOf j).toNat)
  case atStart => exact ⟨1, by omega, by omega, rfl, rfl, Below.refl _ _⟩
  case round =>
    obtain ⟨m, hm1, hm, rfl, rfl, hB⟩ := hrel
    by_cases hlt : m < n
    · have hlt' : (m : Int) < n := by omega
      obtain ⟨b', off', ea, e1⟩ := hS m (by rw [HL.out]; exact hlt)
      cases ea
      have HT : Hid ((L.take m).foldl min x = min ((L.take (m - 1)).foldl min x) ((x :: L).getD m 0)) := hid (by
        obtain ⟨q, rfl⟩ : ∃ q, m = q + 1 := ⟨m - 1, by omega⟩
        have hq : q < L.length := by have := HL.out; simp at this; omega
        have e : L.take (q + 1) = L.take q ++ [L[q]] := by rw [List.take_add_one, List.getElem?_eq_getElem hq]; rfl
        rw [show q + 1 - 1 = q from rfl, e, List.foldl_append]
        simp [List.getElem?_eq_getElem hq])
      generalize (x :: L).getD m 0 = y at e1 HT
      generalize (L.take (m - 1)).foldl min x = z at HT
      replace e1 := cell_grown hB e1
      have gb2 := lt_of_cell e1
      go_wp2_with fail
      go_roundw
      case rel => exact ⟨m + 1, by omega, by omega, by go_num, by rw [show m + 1 - 1 = m by omega, HT.out, ← min_if], hB⟩
      case measure => simp [intOf]; omega
    · have hmn : m = n := by omega
      subst hmn
      have hfin : L.take (m - 1) = L := List.take_of_length_le (by have := HL.out; simp at this; omega)
      rw [hfin]
      clear hfin
      go_wp2_with fail
      go_ret
      exact ⟨rfl, hB⟩

set_option maxHeartbeats 1000000 in
theorem least_any (L : List Int) (n cap : Nat) (a : Option Addr) (w : World) (hL : L.length = n) (hn : n ≤ 1000) (hS : IntsAt w a L) :
    Calls Try.prog 111 #[.slice a n cap] w fun e w' => e = .returned (.int .i64 (minL L)) ∧ Below w.heap.size w w' := by
  cases L with
  | nil =>
    simp only [List.length_nil] at hL
    subst hL
    go_enter Try.func111, Try.ntmps111
    go_wp2_with fail
    go_ret
    exact ⟨rfl, Below.refl _ _⟩
  | cons x L =>
    have h0 : ((n : Int) == 0) = false := by rw [← hL]; simp; omega
    have h1 := min_any x L n cap a w hL hn hS
    clear hL
    go_enter Try.func111, Try.ntmps111
    go_wp2_with (go_at_call 132; refine h1.mono ?_; rintro e w' ⟨rfl, hb⟩)
    go_ret
    exact ⟨rfl, hb⟩

end Go.Proofs.Ytohahlnhbppnhaa
