/- Tongue, the laws: steps, for the program. -/
import Derived.Test.YtohahlnhbppnhaaAY
namespace Go.Proofs.Ytohahlnhbppnhaa
open Go.RowKit
set_option linter.unusedSimpArgs false
set_option linter.unusedVariables false

theorem take_pairs (l : List (Int × Int)) (j : Nat) (hj : j < l.length) : l.take (j + 1) = l.take j ++ [l.getD j (0, 0)] := by
  rw [List.take_add_one, List.getElem?_eq_getElem hj, List.getD_eq_getElem?_getD, List.getElem?_eq_getElem hj]
  rfl

set_option maxRecDepth 100000 in
set_option maxHeartbeats 1000000 in
theorem steps_any (l : List (Int × Int)) (n cap : Nat) (a : Option Addr) (w : World) (hl : l.length = n) (hn : n ≤ 1000) (hP : PairsAt w a l) :
    Calls Try.prog 24 #[.slice a n cap] w fun e w' => ∃ a' cap', e = .returned (.slice a' n cap') ∧ PairsAt w' a' l ∧ Below w.heap.size w w' := by
  obtain ⟨i0, hi0, hz0, hz1, hz2⟩ := info_parts Try.info36
  have HL := hid hl
  have HSU : Hid (∀ j, j < n → l.take (j + 1) = l.take j ++ [l.getD j (0, 0)]) := hid (fun j hj => take_pairs l j (by omega))
  have HLN : Hid (l.take n = l) := hid (by rw [← hl, List.take_length])
  clear hl
  go_enter Try.func24, Try.ntmps24
  go_wp2_with fail
  go_loopw [3, 4] (fun v i wr => ∃ j : Nat, j ≤ n ∧ i = .int .i64 j ∧ wr.ownsRow w.heap.size 36 2 v j (flatP (l.take j)) ∧ Below w.heap.size w wr) (fun _ i _ => n - (intOf i).toNat)
  case atStart => exact ⟨0, Nat.zero_le _, rfl, World.ownsRow_nil _ _ _ _, Below.refl _ _⟩
  case round =>
    obtain ⟨j, hj, rfl, hown, hB⟩ := hrel
    by_cases hlt : j < n
    · have hlt' : (j : Int) < n := by omega
      obtain ⟨b1, off1, ea, c1, c2⟩ := hP j (by rw [HL.out]; exact hlt)
      subst ea
      have g1 := lt_of_cell c1
      have g2 := lt_of_cell c2
      replace c1 := cell_grown hB c1
      replace c2 := cell_grown hB c2
      have hsu := HSU.out j hlt
      have hpe : l.getD j (0, 0) = ((l.getD j (0, 0)).1, (l.getD j (0, 0)).2) := rfl
      rw [hpe] at hsu
      generalize (l.getD j (0, 0)).1 = x at c1 hsu
      generalize (l.getD j (0, 0)).2 = y at c2 hsu
      have HV := hid hsu
      clear hsu hpe
      have q1 := lt_of_cell c1
      have q2 := lt_of_cell c2
      have hBr : Below wr.heap.size wr wr.drew := (Below.refl _ _).drew
      have hzB := hB.size
      have hbl : Below wr.heap.size wr (wr.alloc (.cells #[.int .i64 x, .int .i64 y] 36)).drew := (below_alloc _ _).drew
      have hownA := book_owns hown (grown_none hbl) (fun r e => by cases e)
      obtain ⟨va, vc, rfl⟩ := owns_shape hown
      go_wp2_with fail
      go_region_held3 (fun w' : World => w'.cell? ⟨b1, off1 + j * 2, none⟩ = some (.int .i64 x) ∧ w'.cell? ⟨b1, off1 + j * 2 + 1, none⟩ = some (.int .i64 y)) (first | with_reducible exact ⟨cell_grown hBr c1, cell_grown hBr c2⟩ | with_reducible exact ⟨cell_grown hbl c1, cell_grown hbl c2⟩ | with_reducible exact ⟨z1, z2⟩) (first | (refine step_append_at rfl _ _ 27 rfl w.heap.size 36 i0 (.agg #[.int .i64 0, .int .i64 0]) 2 16 Try.underlying27 hi0 hz0 hz1 hz2 rfl (by decide) _ j _ rfl hownA _ 1 1 [.int .i64 x, .int .i64 y] rfl rfl (pair_new wr _ _ 36) (by simp [Value.oneCell']) (by unfold maxLen; omega) (by omega) (by have := hbl.size; omega) ?_; intro v' w5 hown' hgrow; have hb5 : Below w.heap.size wr w5 := (hbl.mono hzB).trans ((Below.refl w.heap.size _).grown hgrow (by have := hbl.size; omega) (fun r e => (hownA.lt r e).1)); have z1 := cell_below hb5 g1 c1; have z2 := cell_below hb5 g2 c2))
      go_wp2_with fail
      go_roundw
      case rel => exact ⟨j + 1, by omega, by go_num, by rw [HV.out, flatP_append]; exact hown', hB.trans hb5⟩
      case measure => simp [intOf]; omega
    · have hjn : j = n := by omega
      subst hjn
      obtain ⟨va, vc, rfl⟩ := owns_shape hown
      have hin := pairs_of_owns (T := l.take j) (a := va) (cap := vc) (W := wr) (e := 36) (base := w.heap.size) (by rw [HLN.out, HL.out]; rw [HLN.out] at hown; exact hown)
      rw [HLN.out] at hin
      go_wp2_with fail
      go_ret
      exact ⟨va, vc, rfl, hin, hB⟩

end Go.Proofs.Ytohahlnhbppnhaa
