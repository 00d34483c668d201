/- Contract of the law's Office: the reference's office as the program's. -/
import Derived.Test.YtgapbaelifcifaaCL
import Derived.Test.YtgapbaelifcifaaBA
namespace Go.Proofs.Ytgapbaelifcifaa
open Go.RowKit

theorem Try.info102 : (Try.prog.info? 102).map (fun i => (i.zero, i.size, i.bytes)) = some (some (.agg #[.int .i64 0, .int .i64 0, .int .i64 0]), 3, 24) := by kernel_rfl

/-- Numbers three by three. -/
def flat3 : List (Int × Int × Int) → List Value
  | [] => []
  | x :: xs => .int .i64 x.1 :: .int .i64 x.2.1 :: .int .i64 x.2.2 :: flat3 xs

theorem flat3_append (xs ys : List (Int × Int × Int)) : flat3 (xs ++ ys) = flat3 xs ++ flat3 ys := by
  induction xs with
  | nil => rfl
  | cons x xs ih => simp [flat3, ih]

theorem flat3_get (xs : List (Int × Int × Int)) : ∀ i, i < xs.length → (flat3 xs)[i * 3]? = some (.int .i64 (xs.getD i (0, 0, 0)).1) ∧ (flat3 xs)[i * 3 + 1]? = some (.int .i64 (xs.getD i (0, 0, 0)).2.1) ∧ (flat3 xs)[i * 3 + 2]? = some (.int .i64 (xs.getD i (0, 0, 0)).2.2) := by
  induction xs with
  | nil => intro i h; simp at h
  | cons x xs ih =>
    intro i h
    cases i with
    | zero => simp [flat3]
    | succ i =>
      have := ih i (by simpa using h)
      rw [show (i + 1) * 3 = i * 3 + 3 from by omega]
      simpa [flat3] using this

theorem crew_of_owns {W : World} {base : Nat} {e : TypeId} {a : Option Addr} {cap : Nat} {T : List (Int × Int × Int)} (h : W.ownsRow base e 3 (.slice a T.length cap) T.length (flat3 T)) : Crew W a T := by
  intro i hi
  rcases h.2 with ⟨_, h0⟩ | ⟨g, cap', cur, hv, _, hg, _⟩
  · omega
  · simp only [Value.slice.injEq] at hv
    obtain ⟨rfl, -, -⟩ := hv
    have hc := h.cells (g := g) rfl
    have hadd : ∀ j, (⟨g, 0, none⟩ : Addr).add j = ⟨g, 0 + j, none⟩ := fun j => by unfold Addr.add; split <;> simp_all
    obtain ⟨e1, e2, e3⟩ := flat3_get T i hi
    have c1 := hc _ _ e1
    have c2 := hc _ _ e2
    have c3 := hc _ _ e3
    rw [hadd] at c1 c2 c3
    exact ⟨g, 0, rfl, c1, by rw [Nat.add_assoc]; exact c2, by rw [Nat.add_assoc]; exact c3⟩

theorem cell_three_new (w : World) (x y z : Value) (t : TypeId) (b : Nat) (hb : b = w.heap.size) : ∀ j u, [x, y, z][j]? = some u → (w.alloc (.cells #[x, y, z] t)).cell? ((⟨b, 0, none⟩ : Addr).add j) = some u := by
  subst hb
  intro j u hj
  match j, hj with
  | 0, hj => simp at hj; subst hj; simp [Addr.add]
  | 1, hj => simp at hj; subst hj; simp [Addr.add]
  | 2, hj => simp at hj; subst hj; simp [Addr.add]
  | (j + 3), hj => simp at hj

set_option maxRecDepth 100000 in
set_option maxHeartbeats 4000000 in
theorem office_any (C : List (Int × Int × Int)) (due delay : Int) (n cap : Nat) (a : Option Addr) (w : World) (hL : C.length = n) (hn : n ≤ 60) (hS : Crew w a C) :
    Calls Try.prog 20 #[.agg #[.slice a n cap, .int .i64 due, .int .i64 delay]] w fun e w' =>
      ∃ ra rc, e = .returned (.agg #[.slice ra n rc, .int .i64 due, .int .i64 delay]) ∧ Crew w' ra C ∧ Below w.heap.size w w' := by
  have HL := hid hL
  clear hL
  obtain ⟨i0, hi, hz0, hz1, hz2⟩ := info_parts Try.info102
  go_enter Try.func20, Try.ntmps20
  go_wp2_with fail
  obtain ⟨W0, hW0⟩ : ∃ W0, W0 = ((w.alloc (.cells #[.slice a n cap, .int .i64 due, .int .i64 delay] 27)).alloc (.cells #[.slice none 0 0, .int .i64 0, .int .i64 0] 39)).alloc (.cells #[.slice none 0 0, .int .i64 due, .int .i64 delay] 39) := ⟨_, rfl⟩
  have hB0 : Below w.heap.size w W0 := by rw [hW0]; exact (((Below.refl _ w).alloc (Nat.le_refl _) _).alloc (by simp) _).alloc (by simp; omega) _
  have z0 : W0.heap.size = w.heap.size + 3 := by rw [hW0]; simp
  have c1 : W0.cell? ⟨w.heap.size, 0, none⟩ = some (.slice a n cap) := by rw [hW0]; simp [go_sem]
  have hT0 : W0.heap[w.heap.size + 1 + 1]? = some (.cells #[.slice none 0 0, .int .i64 due, .int .i64 delay] 39 (0, 0)) := by rw [hW0]; have := World.alloc_heap_new ((w.alloc (.cells #[.slice a n cap, .int .i64 due, .int .i64 delay] 27)).alloc (.cells #[.slice none 0 0, .int .i64 0, .int .i64 0] 39)) (.cells #[.slice none 0 0, .int .i64 due, .int .i64 delay] 39); simpa using this
  have r0 : W0.cell? ⟨w.heap.size + 1, 0, none⟩ = some (.slice none 0 0) := by rw [hW0]; simp [go_sem]
  have s0 : W0.frozen? ⟨w.heap.size + 1, 0, none⟩ = false := by rw [hW0]; simp [go_sem]
  have r1 : W0.cell? ⟨w.heap.size + 1, 1, none⟩ = some (.int .i64 0) := by rw [hW0]; simp [go_sem]
  have s1 : W0.frozen? ⟨w.heap.size + 1, 1, none⟩ = false := by rw [hW0]; simp [go_sem]
  have r2 : W0.cell? ⟨w.heap.size + 1, 2, none⟩ = some (.int .i64 0) := by rw [hW0]; simp [go_sem]
  have s2 : W0.frozen? ⟨w.heap.size + 1, 2, none⟩ = false := by rw [hW0]; simp [go_sem]
  rw [← hW0]
  clear hW0
  go_loopw [4] (fun i wr => ∃ (k : Nat) (v : Value), k ≤ n ∧ i = .int .i64 k ∧ wr.ownsRow (w.heap.size + 3) 102 3 v k (flat3 (C.take k)) ∧ wr.heap[w.heap.size + 1 + 1]? = some (.cells #[v, .int .i64 due, .int .i64 delay] 39 (0, 0)) ∧ Below (w.heap.size + 2) W0 wr ∧ w.heap.size + 3 ≤ wr.heap.size) (fun i _ => n - (intOf i).toNat)
  case atStart => exact ⟨0, _, Nat.zero_le _, rfl, World.ownsRow_nil _ _ _ _, hT0, Below.refl _ _, by omega⟩
  case round =>
    obtain ⟨k, v, hk, rfl, hown, hT, hB, hz⟩ := hrel
    have hBw : Below w.heap.size w wr := hB0.trans (hB.mono (by omega))
    replace c1 := (hB.cell (p := ⟨w.heap.size, 0, none⟩) (by simp)).trans c1
    have t0 := (cell_of_row wr (w.heap.size + 1 + 1) 0 _ _ _ hT).trans rfl
    have t1 := (cell_of_row wr (w.heap.size + 1 + 1) 1 _ _ _ hT).trans rfl
    have t2 := (cell_of_row wr (w.heap.size + 1 + 1) 2 _ _ _ hT).trans rfl
    have u0 : wr.frozen? ⟨w.heap.size + 1 + 1, 0, none⟩ = false := frozen_of_row _ _ _ _ _ hT
    by_cases hlt : k < n
    · obtain ⟨b, off, rfl, e1, e2, e3⟩ := hS k (by rw [HL.out]; exact hlt)
      have gb0 := lt_of_cell e1
      replace e1 := cell_grown hBw e1
      replace e2 := cell_grown hBw e2
      replace e3 := cell_grown hBw e3
      have htk : C.take (k + 1) = C.take k ++ [C.getD k (0, 0, 0)] := by rw [List.take_add_one]; simp [List.getElem?_eq_getElem (show k < C.length by rw [HL.out]; exact hlt)]
      obtain ⟨x, hx⟩ : ∃ x, C.getD k (0, 0, 0) = x := ⟨_, rfl⟩
      rw [hx] at e1 e2 e3 htk
      obtain ⟨x1, x2, x3⟩ := x
      simp only at e1 e2 e3
      have HTK := hid htk
      clear hx htk
      have hkk : (k : Int) < n := by omega
      have gw := lt_of_cell c1
      have gt1 := lt_of_cell t1
      have gb := lt_of_cell e1
      have hstep : ∀ w3 : World, ((wr.alloc (.cells #[.int .i64 x1, .int .i64 x2, .int .i64 x3] 91)).alloc (.cells #[.int .i64 x1, .int .i64 x2, .int .i64 x3] 102)).grownBy w3 v.ownBlock → w3.heap[w.heap.size + 1 + 1]? = some (.cells #[v, .int .i64 due, .int .i64 delay] 39 (0, 0)) ∧ Below (w.heap.size + 2) W0 w3 ∧ w3.cell? ⟨w.heap.size + 1 + 1, 0, none⟩ = some v ∧ w3.frozen? ⟨w.heap.size + 1 + 1, 0, none⟩ = false ∧ w.heap.size + 3 ≤ w3.heap.size := by
        intro w3 hgrow
        have hT3 : w3.heap[w.heap.size + 1 + 1]? = some (.cells #[v, .int .i64 due, .int .i64 delay] 39 (0, 0)) := by
          rw [hgrow.block (w.heap.size + 1 + 1) (by simp; omega) (fun e => by have := (hown.lt _ e.symm).1; omega), Below.heap_alloc _ _ _ (show w.heap.size + 1 + 1 < (wr.alloc (.cells #[.int .i64 x1, .int .i64 x2, .int .i64 x3] 91)).heap.size by simp; omega), Below.heap_alloc _ _ _ (show w.heap.size + 1 + 1 < wr.heap.size by omega)]
          exact hT
        have hz : wr.heap.size + 2 ≤ w3.heap.size := by have := hgrow.size; simp at this; omega
        have hB' : Below (w.heap.size + 2) W0 (wr.alloc (.cells #[.int .i64 x1, .int .i64 x2, .int .i64 x3] 91)) := hB.alloc (by omega) _
        have hown0 : (wr.alloc (.cells #[.int .i64 x1, .int .i64 x2, .int .i64 x3] 91)).ownsRow (w.heap.size + 2) 102 3 v k (flat3 (C.take k)) := (ownsRow_mono hown (by omega)).alloc _
        exact ⟨hT3, below_of_grown hB' hown0 hgrow (show w.heap.size + 2 ≤ (wr.alloc (.cells #[.int .i64 x1, .int .i64 x2, .int .i64 x3] 91)).heap.size by simp; omega), (cell_of_row w3 (w.heap.size + 1 + 1) 0 _ _ _ hT3).trans rfl, frozen_of_row _ _ _ _ _ hT3, by omega⟩
      have hnew := cell_three_new (wr.alloc (.cells #[.int .i64 x1, .int .i64 x2, .int .i64 x3] 91)) (.int .i64 x1) (.int .i64 x2) (.int .i64 x3) 102 (wr.heap.size + 1) (by simp)
      have hown1 := (hown.alloc (.cells #[.int .i64 x1, .int .i64 x2, .int .i64 x3] 91)).alloc (.cells #[.int .i64 x1, .int .i64 x2, .int .i64 x3] 102)
      have HN := hid hnew
      clear hnew
      go_wp2_with (at_builtin; refine wpList_append_lies _ rfl _ _ 37 rfl (w.heap.size + 3) 102 i0 (.agg #[.int .i64 0, .int .i64 0, .int .i64 0]) 3 24 Try.underlying37 hi hz0 hz1 hz2 rfl (by decide) _ k _ rfl hown1 ⟨wr.heap.size + 1, 0, none⟩ 1 1 [.int .i64 x1, .int .i64 x2, .int .i64 x3] rfl rfl HN.out (fun x hx => by simp at hx; rcases hx with rfl | rfl | rfl <;> rfl) (by omega) (by unfold maxLen; omega) (by omega) (by simp; omega) (wr.heap.size + 2) (by simp) ?_; intro g cp w3 hown' hgrow hat hlt'; obtain ⟨hT3, hb3, k1, k2, hz3⟩ := hstep w3 hgrow; clear hgrow hat)
      go_wp2
      exact ⟨⟨k + 1, _, by omega, by go_num, by rw [HTK.out, flat3_append]; exact ownsRow_setCell_below hown' (by simp) _, (heap_setCell_same w3 (w.heap.size + 1 + 1) 0 _ 39 _ hT3).trans rfl, hb3.setCell (p := ⟨w.heap.size + 1 + 1, 0, none⟩) (by simp) _, by simp; omega⟩, by simp [intOf]; omega⟩
    · have hkn : k = n := by omega
      subst hkn
      have hLk : C.take k = C := List.take_of_length_le (by rw [HL.out]; omega)
      rw [hLk] at hown
      have H := HL.out
      rw [← H] at hown
      obtain ⟨va, vc, hv⟩ := owns_shape hown
      rw [H] at hv
      subst hv
      have m0 := (hB.cell (p := ⟨w.heap.size + 1, 0, none⟩) (by simp)).trans r0
      have n0 := (hB.frozen (p := ⟨w.heap.size + 1, 0, none⟩) (by simp)).trans s0
      have m1 := (hB.cell (p := ⟨w.heap.size + 1, 1, none⟩) (by simp)).trans r1
      have n1 := (hB.frozen (p := ⟨w.heap.size + 1, 1, none⟩) (by simp)).trans s1
      have m2 := (hB.cell (p := ⟨w.heap.size + 1, 2, none⟩) (by simp)).trans r2
      have n2 := (hB.frozen (p := ⟨w.heap.size + 1, 2, none⟩) (by simp)).trans s2
      have HO := hid hown
      have HB := hid hB
      clear hown hB H hLk r0 r1 r2 s0 s1 s2
      go_wp2
      refine bodyPost_ret (v := .agg #[.slice va k vc, .int .i64 due, .int .i64 delay]) (by simp [results, Try.f20, go_sem, m0, m1, m2]) rfl ⟨va, vc, rfl, ?_, (((hBw).setCell (p := ⟨w.heap.size + 1, 0, none⟩) (by simp) _).setCell (p := ⟨w.heap.size + 1, 1, none⟩) (by simp) _).setCell (p := ⟨w.heap.size + 1, 2, none⟩) (by simp) _⟩
      have hown := HO.out
      have H := HL.out
      rw [← H] at hown
      exact crew_of_owns (ownsRow_setCell_below ((ownsRow_setCell_below ((ownsRow_setCell_below (hown) (a := ⟨w.heap.size + 1, 0, none⟩) (by simp) _)) (a := ⟨w.heap.size + 1, 1, none⟩) (by simp) _)) (a := ⟨w.heap.size + 1, 2, none⟩) (by simp) _)

end Go.Proofs.Ytgapbaelifcifaa
