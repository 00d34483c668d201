/- Contract of the law's Sitting: the reference's sitting as the program's. -/
import Derived.Test.YtgapbaelifcifaaCK
import Derived.Deep.RegionLaw
import Derived.Deep.AppendLies
namespace Go.Proofs.Ytgapbaelifcifaa
open Go.RowKit

theorem ownsRow_mono {w : World} {base base' : Nat} {e : TypeId} {size : Nat} {v : Value} {n : Nat} {xs : List Value} (h : w.ownsRow base e size v n xs) (hb : base' ≤ base) : w.ownsRow base' e size v n xs := by
  obtain ⟨h1, h2⟩ := h
  refine ⟨h1, ?_⟩
  rcases h2 with h2 | ⟨g, cap, cur, e1, e2, e3⟩
  · exact .inl h2
  · exact .inr ⟨g, cap, cur, e1, by omega, e3⟩

set_option maxRecDepth 100000 in
set_option maxHeartbeats 4000000 in
theorem sitting_any (L : List (Int × Int)) (len long short : Int) (n cap : Nat) (a : Option Addr) (w : World)
    (hL : L.length = n) (hn : n ≤ 60) (hS : Spans w a L) :
    Calls Try.prog 18 #[.agg #[.int .i64 len, .slice a n cap, .int .i64 long, .int .i64 short]] w fun e w' =>
      ∃ ra rc, e = .returned (.agg #[.int .i64 len, .slice ra n rc, .int .i64 long, .int .i64 short]) ∧ Spans w' ra L ∧ Below w.heap.size w w' := by
  have HL := hid hL
  clear hL
  obtain ⟨i0, hi, hz0, hz1, hz2⟩ := info_parts Try.info82
  go_enter Try.func18, Try.ntmps18
  go_wp2_with fail
  obtain ⟨W0, hW0⟩ : ∃ W0, W0 = ((w.alloc (.cells #[.int .i64 len, .slice a n cap, .int .i64 long, .int .i64 short] 24)).alloc (.cells #[.int .i64 0, .slice none 0 0, .int .i64 0, .int .i64 0] 34)).alloc (.cells #[.int .i64 len, .slice none 0 0, .int .i64 long, .int .i64 short] 34) := ⟨_, rfl⟩
  have hB0 : Below w.heap.size w W0 := by rw [hW0]; exact (((Below.refl _ w).alloc (Nat.le_refl _) _).alloc (by simp) _).alloc (by simp; omega) _
  have z0 : W0.heap.size = w.heap.size + 3 := by rw [hW0]; simp
  have c1 : W0.cell? ⟨w.heap.size, 1, none⟩ = some (.slice a n cap) := by rw [hW0]; simp [go_sem]
  have hT0 : W0.heap[w.heap.size + 1 + 1]? = some (.cells #[.int .i64 len, .slice none 0 0, .int .i64 long, .int .i64 short] 34 (0, 0)) := by rw [hW0]; have := World.alloc_heap_new ((w.alloc (.cells #[.int .i64 len, .slice a n cap, .int .i64 long, .int .i64 short] 24)).alloc (.cells #[.int .i64 0, .slice none 0 0, .int .i64 0, .int .i64 0] 34)) (.cells #[.int .i64 len, .slice none 0 0, .int .i64 long, .int .i64 short] 34); simp only [World.size_alloc] at this; exact this
  have r0 : W0.cell? ⟨w.heap.size + 1, 0, none⟩ = some (.int .i64 0) := by rw [hW0]; simp [go_sem]
  have s0 : W0.frozen? ⟨w.heap.size + 1, 0, none⟩ = false := by rw [hW0]; simp [go_sem]
  have r1 : W0.cell? ⟨w.heap.size + 1, 1, none⟩ = some (.slice none 0 0) := by rw [hW0]; simp [go_sem]
  have s1 : W0.frozen? ⟨w.heap.size + 1, 1, none⟩ = false := by rw [hW0]; simp [go_sem]
  have r2 : W0.cell? ⟨w.heap.size + 1, 2, none⟩ = some (.int .i64 0) := by rw [hW0]; simp [go_sem]
  have s2 : W0.frozen? ⟨w.heap.size + 1, 2, none⟩ = false := by rw [hW0]; simp [go_sem]
  have r3 : W0.cell? ⟨w.heap.size + 1, 3, none⟩ = some (.int .i64 0) := by rw [hW0]; simp [go_sem]
  have s3 : W0.frozen? ⟨w.heap.size + 1, 3, none⟩ = false := by rw [hW0]; simp [go_sem]
  rw [← hW0]
  clear hW0
  go_loopw [4] (fun i wr => ∃ (k : Nat) (v : Value), k ≤ n ∧ i = .int .i64 k ∧ wr.ownsRow (w.heap.size + 3) 82 2 v k (flat2 (L.take k)) ∧ wr.heap[w.heap.size + 1 + 1]? = some (.cells #[.int .i64 len, v, .int .i64 long, .int .i64 short] 34 (0, 0)) ∧ Below (w.heap.size + 2) W0 wr ∧ w.heap.size + 3 ≤ wr.heap.size) (fun i _ => n - (intOf i).toNat)
  case atStart => exact ⟨0, _, Nat.zero_le _, rfl, World.ownsRow_nil _ _ _ _, hT0, Below.refl _ _, by omega⟩
  case round =>
    obtain ⟨k, v, hk, rfl, hown, hT, hB, hz⟩ := hrel
    have hBw : Below w.heap.size w wr := hB0.trans (hB.mono (by omega))
    replace c1 := (hB.cell (p := ⟨w.heap.size, 1, none⟩) (by simp)).trans c1
    have t0 := (cell_of_row wr (w.heap.size + 1 + 1) 0 _ _ _ hT).trans rfl
    have t1 := (cell_of_row wr (w.heap.size + 1 + 1) 1 _ _ _ hT).trans rfl
    have t2 := (cell_of_row wr (w.heap.size + 1 + 1) 2 _ _ _ hT).trans rfl
    have t3 := (cell_of_row wr (w.heap.size + 1 + 1) 3 _ _ _ hT).trans rfl
    have u1 : wr.frozen? ⟨w.heap.size + 1 + 1, 1, none⟩ = false := frozen_of_row _ _ _ _ _ hT
    by_cases hlt : k < n
    · obtain ⟨b, off, rfl, e1, e2⟩ := hS k (by rw [HL.out]; exact hlt)
      have gb0 := lt_of_cell e1
      replace e1 := cell_grown hBw e1
      replace e2 := cell_grown hBw e2
      have htk : L.take (k + 1) = L.take k ++ [L.getD k (0, 0)] := by rw [List.take_add_one]; simp [List.getElem?_eq_getElem (show k < L.length by rw [HL.out]; exact hlt)]
      obtain ⟨x, hx⟩ : ∃ x, L.getD k (0, 0) = x := ⟨_, rfl⟩
      rw [hx] at e1 e2 htk
      obtain ⟨x1, x2⟩ := x
      simp only at e1 e2
      have HTK := hid htk
      clear hx htk
      have hkk : (k : Int) < n := by omega
      have gw := lt_of_cell c1
      have gt1 := lt_of_cell t1
      have gb := lt_of_cell e1
      have hstep : ∀ w3 : World, (wr.drew.alloc (.cells #[.int .i64 x1, .int .i64 x2] 82)).grownBy w3 v.ownBlock → w3.heap[w.heap.size + 1 + 1]? = some (.cells #[.int .i64 len, v, .int .i64 long, .int .i64 short] 34 (0, 0)) ∧ Below (w.heap.size + 2) W0 w3 ∧ w3.cell? ⟨w.heap.size + 1 + 1, 1, none⟩ = some v ∧ w3.frozen? ⟨w.heap.size + 1 + 1, 1, none⟩ = false ∧ w.heap.size + 3 ≤ w3.heap.size := by
        intro w3 hgrow
        have hT3 : w3.heap[w.heap.size + 1 + 1]? = some (.cells #[.int .i64 len, v, .int .i64 long, .int .i64 short] 34 (0, 0)) := by
          rw [hgrow.block (w.heap.size + 1 + 1) (by simp; omega) (fun e => by have := (hown.lt _ e.symm).1; omega), Below.heap_alloc _ _ _ (show w.heap.size + 1 + 1 < wr.drew.heap.size by simp; omega)]
          exact hT
        have hz : wr.heap.size + 1 ≤ w3.heap.size := by have := hgrow.size; simpa using this
        have hown0 : wr.drew.ownsRow (w.heap.size + 2) 82 2 v k (flat2 (L.take k)) := ownsRow_mono hown (by omega)
        exact ⟨hT3, below_of_grown hB.drew hown0 hgrow (show w.heap.size + 2 ≤ wr.heap.size by omega), (cell_of_row w3 (w.heap.size + 1 + 1) 1 _ _ _ hT3).trans rfl, frozen_of_row _ _ _ _ _ hT3, by omega⟩
      go_wp2_with fail
      go_region_law (refine step_append_lies _ rfl _ _ 32 rfl (w.heap.size + 3) 82 i0 (.agg #[.int .i64 0, .int .i64 0]) 2 16 Try.underlying32 hi hz0 hz1 hz2 rfl (by decide) _ k _ rfl (hown.alloc (.cells #[.int .i64 x1, .int .i64 x2] 82)) ⟨wr.heap.size, 0, none⟩ 1 1 [.int .i64 x1, .int .i64 x2] rfl rfl (cell_two_new _ _ _ _) (fun x hx => by simp at hx; rcases hx with rfl | rfl <;> rfl) (by omega) (by unfold maxLen; omega) (by omega) (by simp; omega) (wr.heap.size + 1) (by simp) ?_; intro g cp w3 hown' hgrow hat hlt'; obtain ⟨hT3, hb3, k1, k2, hz3⟩ := hstep w3 hgrow; clear hgrow hat)
      all_goals
        go_wp2
        exact ⟨⟨k + 1, _, by omega, by go_num, by rw [HTK.out, flat2_append]; exact ownsRow_setCell_below hown' (by simp) _, (heap_setCell_same w3 (w.heap.size + 1 + 1) 1 _ 34 _ hT3).trans rfl, hb3.setCell (p := ⟨w.heap.size + 1 + 1, 1, none⟩) (by simp) _, by simp; omega⟩, by simp [intOf]; omega⟩
    · have hkn : k = n := by omega
      subst hkn
      have hLk : L.take k = L := List.take_of_length_le (by rw [HL.out]; omega)
      rw [hLk] at hown
      have H := HL.out
      rw [← H] at hown
      obtain ⟨va, vc, hv⟩ := owns_shape hown
      rw [H] at hv
      subst hv
      have hB2 := hB
      have m0 := (hB.cell (p := ⟨w.heap.size + 1, 0, none⟩) (by simp)).trans r0
      have n0 := (hB.frozen (p := ⟨w.heap.size + 1, 0, none⟩) (by simp)).trans s0
      have m1 := (hB.cell (p := ⟨w.heap.size + 1, 1, none⟩) (by simp)).trans r1
      have n1 := (hB.frozen (p := ⟨w.heap.size + 1, 1, none⟩) (by simp)).trans s1
      have m2 := (hB.cell (p := ⟨w.heap.size + 1, 2, none⟩) (by simp)).trans r2
      have n2 := (hB.frozen (p := ⟨w.heap.size + 1, 2, none⟩) (by simp)).trans s2
      have m3 := (hB.cell (p := ⟨w.heap.size + 1, 3, none⟩) (by simp)).trans r3
      have n3 := (hB.frozen (p := ⟨w.heap.size + 1, 3, none⟩) (by simp)).trans s3
      have HO := hid hown
      have HB := hid hB
      clear hown hB hB2 H hLk r0 r1 r2 r3 s0 s1 s2 s3
      go_wp2
      refine bodyPost_ret (v := .agg #[.int .i64 len, .slice va k vc, .int .i64 long, .int .i64 short]) (by simp [results, Try.f18, go_sem, m0, m1, m2, m3]) rfl ⟨va, vc, rfl, ?_, ((((hBw).setCell (p := ⟨w.heap.size + 1, 0, none⟩) (by simp) _).setCell (p := ⟨w.heap.size + 1, 1, none⟩) (by simp) _).setCell (p := ⟨w.heap.size + 1, 2, none⟩) (by simp) _).setCell (p := ⟨w.heap.size + 1, 3, none⟩) (by simp) _⟩
      have hown := HO.out
      have H := HL.out
      rw [← H] at hown
      exact spans_of_owns (ownsRow_setCell_below ((ownsRow_setCell_below ((ownsRow_setCell_below ((ownsRow_setCell_below (hown) (a := ⟨w.heap.size + 1, 0, none⟩) (by simp) _)) (a := ⟨w.heap.size + 1, 1, none⟩) (by simp) _)) (a := ⟨w.heap.size + 1, 2, none⟩) (by simp) _)) (a := ⟨w.heap.size + 1, 3, none⟩) (by simp) _)

end Go.Proofs.Ytgapbaelifcifaa
