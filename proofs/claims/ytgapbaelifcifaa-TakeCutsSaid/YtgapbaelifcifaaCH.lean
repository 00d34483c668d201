/- Contract of the reference's stretches. -/
import Derived.Test.YtgapbaelifcifaaCG
import Derived.Test.YtgapbaelifcifaaCA
namespace Go.Proofs.Ytgapbaelifcifaa
open Go.RowKit

theorem Try.info51 : (Try.prog.info? 51).map (fun i => (i.zero, i.size, i.bytes)) = some (some (.agg #[.int .i64 0, .int .i64 0]), 2, 16) := by kernel_rfl

/-- An own slice's array lies in no elder block: what is read there stands. -/
theorem below_of_grown {w W W' : World} {base : Nat} {e : TypeId} {size : Nat} {v : Value} {k : Nat} {xs : List Value} {o : Obj} (hb : Below base w W) (hrow : W.ownsRow base e size v k xs) (hg : (W.alloc o).grownBy W' v.ownBlock) (hB : base ≤ W.heap.size) : Below base w W' :=
  Below.grown (hb.alloc hB _) hg (by simp; omega) (fun j hj => by have := (hrow.lt _ hj).1; omega)

set_option maxRecDepth 100000 in
set_option maxHeartbeats 2000000 in
theorem stretchesR_any (L : List (Int × Int)) (len long short : Int) (n cap : Nat) (a : Option Addr) (w : World)
    (hL : L.length = n) (hn : n ≤ 60) (hS : Spans w a L) :
    Calls Try.prog 57 #[.agg #[.int .i64 len, .slice a n cap, .int .i64 long, .int .i64 short]] w fun e w' =>
      ∃ ra rc, e = .returned (.slice ra (strs len 0 L).length rc) ∧ Spans w' ra (strs len 0 L) ∧ Below w.heap.size w w' ∧ (strs len 0 L).length ≤ 61 := by
  have HL := hid hL
  clear hL
  obtain ⟨i0, hi, hz0, hz1, hz2⟩ := info_parts Try.info51
  go_enter Try.func57, Try.ntmps57
  go_wp2_with fail
  obtain ⟨W0, hW0⟩ : ∃ W0, W0 = w.alloc (.cells #[.int .i64 len, .slice a n cap, .int .i64 long, .int .i64 short] 24) := ⟨_, rfl⟩
  have hB0 : Below w.heap.size w W0 := by rw [hW0]; exact (Below.refl _ w).alloc (Nat.le_refl _) _
  have c0 : W0.cell? ⟨w.heap.size, 0, none⟩ = some (.int .i64 len) := by rw [hW0]; simp
  have c1 : W0.cell? ⟨w.heap.size, 1, none⟩ = some (.slice a n cap) := by rw [hW0]; simp
  have z0 : W0.heap.size = w.heap.size + 1 := by rw [hW0]; simp
  rw [← hW0]
  clear hW0
  go_loopw [3, 4, 5] (fun v f i wr => ∃ (k : Nat) (fr : Int) (pre : List (Int × Int)), k ≤ n ∧ i = .int .i64 k ∧ f = .int .i64 fr ∧ Hid (strs len 0 L = pre ++ strs len fr (L.drop k)) ∧ pre.length ≤ k ∧ wr.ownsRow (w.heap.size + 1) 51 2 v pre.length (flat2 pre) ∧ Below (w.heap.size + 1) W0 wr ∧ w.heap.size + 1 ≤ wr.heap.size) (fun _ _ i _ => n - (intOf i).toNat)
  case atStart => exact ⟨0, 0, [], Nat.zero_le _, rfl, rfl, rfl, Nat.zero_le _, World.ownsRow_nil _ _ _ _, Below.refl _ _, by omega⟩
  case round =>
    obtain ⟨k, fr, pre, hk, rfl, rfl, HP, hpk, hown, hB, hz⟩ := hrel
    have hBw : Below w.heap.size w wr := hB0.trans (hB.mono (by omega))
    rw [← z0] at hB
    replace c0 := cell_grown hB c0
    replace c1 := cell_grown hB c1
    rw [z0] at hB
    have gw := lt_of_cell c1
    by_cases hlt : k < n
    · obtain ⟨b, off, rfl, e1, e2⟩ := hS k (by rw [HL.out]; exact hlt)
      have gb0 := lt_of_cell e1
      replace e1 := cell_grown hBw e1
      replace e2 := cell_grown hBw e2
      have hst := strs_drop (len := len) (f := fr) (L := L) (k := k) (by rw [HL.out]; exact hlt)
      obtain ⟨x, hx⟩ : ∃ x, L.getD k (0, 0) = x := ⟨_, rfl⟩
      rw [hx] at e1 e2 hst
      have gb := lt_of_cell e1
      obtain ⟨v1, v2⟩ := x
      simp only at e1 e2 hst
      clear hx
      by_cases hf : fr < v1
      · have HP2 : Hid (strs len 0 L = (pre ++ [(fr, v1)]) ++ strs len v2 (L.drop (k + 1))) := hid (by rw [HP.out, hst, if_pos hf]; simp)
        clear hst HP
        go_wp2_with (at_builtin; refine wpList_append_own _ rfl _ _ 22 rfl (w.heap.size + 1) 51 i0 (.agg #[.int .i64 0, .int .i64 0]) 2 16 Try.underlying22 hi hz0 hz1 hz2 rfl (by decide) _ _ _ rfl (hown.alloc _) ⟨wr.heap.size, 0, none⟩ 1 1 [.int .i64 fr, .int .i64 v1] rfl rfl (cell_two_new _ _ _ _) (fun x hx => by simp at hx; rcases hx with rfl | rfl <;> rfl) (by unfold maxLen; omega) (by omega) (by simp; omega) ?_; intro v' w3 hown' hgrow3 hnil3; have hb3 := below_of_grown hB hown hgrow3 hz; have hz3 : w.heap.size + 1 ≤ w3.heap.size := Nat.le_trans hz (by have := hgrow3.size; simp at this; omega); have hbr := below_of_grown (Below.refl (w.heap.size + 1) wr) hown hgrow3 hz; have k0 := (hbr.cell (p := ⟨w.heap.size, 0, none⟩) (by simp)).trans c0; have k1 := (hbr.cell (p := ⟨w.heap.size, 1, none⟩) (by simp)).trans c1; have k2 := (hbr.cell (p := ⟨b, off + k * 2 + 1, none⟩) (by simp; omega)).trans e2)
        go_roundw
        case rel => exact ⟨k + 1, v2, pre ++ [(fr, v1)], by omega, by go_num, rfl, HP2, by simp; omega, by rw [List.length_append, flat2_append]; exact hown', hb3, hz3⟩
        case measure => simp [intOf]; omega
      · have HP2 : Hid (strs len 0 L = pre ++ strs len v2 (L.drop (k + 1))) := hid (by rw [HP.out, hst, if_neg hf])
        clear hst HP
        go_wp2
        go_roundw
        case rel => exact ⟨k + 1, v2, pre, by omega, by go_num, rfl, HP2, by omega, hown, hB, hz⟩
        case measure => simp [intOf]; omega
    · have hkn : k = n := by omega
      have HP1 : Hid (strs len 0 L = pre ++ if fr < len then [(fr, len)] else []) := hid (by rw [HP.out, List.drop_eq_nil_of_le (by rw [HL.out]; omega)]; rfl)
      clear HP
      by_cases hf : fr < len
      · have HP2 : Hid (strs len 0 L = pre ++ [(fr, len)]) := hid (by rw [HP1.out, if_pos hf])
        clear HP1
        go_wp2_with (at_builtin; refine wpList_append_own _ rfl _ _ 22 rfl (w.heap.size + 1) 51 i0 (.agg #[.int .i64 0, .int .i64 0]) 2 16 Try.underlying22 hi hz0 hz1 hz2 rfl (by decide) _ _ _ rfl (hown.alloc _) ⟨wr.heap.size, 0, none⟩ 1 1 [.int .i64 fr, .int .i64 len] rfl rfl (cell_two_new _ _ _ _) (fun x hx => by simp at hx; rcases hx with rfl | rfl <;> rfl) (by unfold maxLen; omega) (by omega) (by simp; omega) ?_; intro v' w3 hown' hgrow3 hnil3; have hb3 := below_of_grown hB hown hgrow3 hz; have hz3 : w.heap.size + 1 ≤ w3.heap.size := Nat.le_trans hz (by have := hgrow3.size; simp at this; omega))
        go_ret
        obtain ⟨ra, rc, rfl⟩ := owns_shape hown'
        have hs : flat2 (pre ++ [(fr, len)]) = flat2 pre ++ [.int .i64 fr, .int .i64 len] := flat2_append _ _
        rw [← hs] at hown'
        refine ⟨ra, rc, by rw [HP2.out, List.length_append]; rfl, by rw [HP2.out]; exact spans_of_owns (by rw [List.length_append]; exact hown'), hB0.trans (hb3.mono (by omega)), by rw [HP2.out]; simp; omega⟩
      · have HP2 : Hid (strs len 0 L = pre) := hid (by rw [HP1.out, if_neg hf]; simp)
        clear HP1
        obtain ⟨ra, rc, rfl⟩ := owns_shape hown
        have hsp := spans_of_owns hown
        have hl : Hid (pre.length ≤ 61) := hid (by omega)
        go_wp2
        go_ret
        rw [HP2.out]
        exact ⟨ra, ⟨rc, rfl⟩, hsp, hBw, hl.out⟩

end Go.Proofs.Ytgapbaelifcifaa
