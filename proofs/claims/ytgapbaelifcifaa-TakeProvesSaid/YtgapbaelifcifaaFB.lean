/- Contracts of the reference's end and Done, of the law's Reals. -/
import Derived.Test.YtgapbaelifcifaaFA
import Derived.Test.YtgapbaelifcifaaCL
import Derived.Deep.RegionHeld3
namespace Go.Proofs.Ytgapbaelifcifaa
open Go.RowKit

theorem Try.info81 : (Try.prog.info? 81).map (fun i => (i.zero, i.size, i.bytes)) = some (some (.agg #[.int .i64 0, .int .i64 0]), 2, 16) := by kernel_rfl

theorem ownsRow_below {w w' : World} {base : Nat} {e : TypeId} {size : Nat} {v : Value} {n : Nat} {xs : List Value} (h : w.ownsRow base e size v n xs) (hb : Below w.heap.size w w') : w'.ownsRow base e size v n xs := by
  refine ⟨h.1, ?_⟩
  rcases h.2 with h2 | ⟨g, cap, cur, hv, hbg, hg, hrest⟩
  · exact .inl h2
  · have hlt : g < w.heap.size := by
      rcases Nat.lt_or_ge g w.heap.size with h | h
      · exact h
      · rw [Array.getElem?_eq_none h] at hg; simp at hg
    exact .inr ⟨g, cap, cur, hv, hbg, by rw [hb.block g hlt]; exact hg, hrest⟩

def endM (x : Int × Int) (slow delay : Int) : Int := x.2 + (x.2 - x.1) * slow + delay

set_option maxHeartbeats 400000 in
theorem end_any (f t slow delay : Int) (w : World) (h1 : 0 ≤ f ∧ f < t ∧ t ≤ 36000) (h2 : 0 ≤ slow ∧ slow ≤ 20) (h3 : 0 ≤ delay ∧ delay ≤ 36000) :
    Calls Try.prog 66 #[.agg #[.int .i64 f, .int .i64 t], .int .i64 slow, .int .i64 delay] w fun e w' => e = .returned (.int .i64 (endM (f, t) slow delay)) ∧ Below w.heap.size w w' := by
  have hm := mul_bd (x := t - f) (y := slow) (by omega) (by omega) h2.1 h2.2
  go_enter Try.func66, Try.ntmps66
  go_wp2
  go_ret
  exact ⟨rfl, (Below.refl _ _).alloc (Nat.le_refl _) _⟩

set_option maxRecDepth 100000 in
set_option maxHeartbeats 4000000 in
theorem realsL_any (R : List (Int × Int)) (n cap : Nat) (a : Option Addr) (w : World) (hL : R.length = n) (hn : n ≤ 60) (hS : Spans w a R) :
    Calls Try.prog 40 #[.slice a n cap] w fun e w' => ∃ ra rc, e = .returned (.slice ra n rc) ∧ Spans w' ra R ∧ Below w.heap.size w w' := by
  have HL := hid hL
  clear hL
  obtain ⟨i0, hi, hz0, hz1, hz2⟩ := info_parts Try.info81
  go_enter Try.func40, Try.ntmps40
  go_wp2_with fail
  go_loopw [3, 4] (fun v i wr => ∃ k : Nat, k ≤ n ∧ i = .int .i64 k ∧ wr.ownsRow w.heap.size 81 2 v k (flat2 (R.take k)) ∧ Below w.heap.size w wr) (fun _ i _ => n - (intOf i).toNat)
  case atStart => exact ⟨0, Nat.zero_le _, rfl, World.ownsRow_nil _ _ _ _, Below.refl _ _⟩
  case round =>
    obtain ⟨k, hk, rfl, hown, hB⟩ := hrel
    have hzr := hB.size
    by_cases hlt : k < n
    · obtain ⟨b, off, rfl, e1, e2⟩ := hS k (by rw [HL.out]; exact hlt)
      have gb0 := lt_of_cell e1
      have f1 := cell_grown hB e1
      have f2 := cell_grown hB e2
      have htk : R.take (k + 1) = R.take k ++ [R.getD k (0, 0)] := by rw [List.take_add_one]; simp [List.getElem?_eq_getElem (show k < R.length by rw [HL.out]; exact hlt)]
      obtain ⟨x, hx⟩ : ∃ x, R.getD k (0, 0) = x := ⟨_, rfl⟩
      rw [hx] at e1 e2 f1 f2 htk
      obtain ⟨x1, x2⟩ := x
      simp only at e1 e2 f1 f2
      have HTK := hid htk
      clear hx htk
      have hkk : (k : Int) < n := by omega
      have gb := lt_of_cell f1
      go_wp2_with fail
      have hown0 : wr.drew.ownsRow w.heap.size 81 2 u3 k (flat2 (R.take k)) := hown
      go_region_law (refine step_append_lies _ rfl _ _ 68 rfl w.heap.size 81 i0 (.agg #[.int .i64 0, .int .i64 0]) 2 16 Try.underlying68 hi hz0 hz1 hz2 rfl (by decide) _ k _ rfl (hown.alloc (.cells #[.int .i64 x1, .int .i64 x2] 81)) ⟨wr.heap.size, 0, none⟩ 1 1 [.int .i64 x1, .int .i64 x2] rfl rfl (cell_two_new _ _ _ _) (fun x hx => by simp at hx; rcases hx with rfl | rfl <;> rfl) (by omega) (by unfold maxLen; omega) (by omega) (by simp; omega) (wr.heap.size + 1) (by simp) ?_; intro g cp w3 hown' hgrow hat hlt'; have hb3 := below_of_grown hB.drew hown0 hgrow hzr; clear hgrow hat)
      all_goals
        go_wp2
        exact ⟨⟨k + 1, by omega, by go_num, by rw [HTK.out, flat2_append]; exact hown', hb3⟩, by simp [intOf]; omega⟩
    · have hkn : k = n := by omega
      subst hkn
      have hLk : R.take k = R := List.take_of_length_le (by rw [HL.out]; omega)
      rw [hLk] at hown
      have H := HL.out
      rw [← H] at hown
      obtain ⟨va, vc, hv⟩ := owns_shape hown
      rw [H] at hv
      subst hv
      have HO := hid hown
      clear hown hLk H
      go_wp2
      go_ret
      refine ⟨va, vc, rfl, ?_, hB⟩
      have hown := HO.out
      have H := HL.out
      rw [← H] at hown
      exact spans_of_owns hown

end Go.Proofs.Ytgapbaelifcifaa
