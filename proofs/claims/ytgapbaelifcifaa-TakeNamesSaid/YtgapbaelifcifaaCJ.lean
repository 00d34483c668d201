/- Contract of the reference's stretches. The reference's way to cut a stretch, in numbers; a store into a slice that the call owns. Contract of the reference's Takes. -/
import Derived.Test.YtgapbaelifcifaaCG
import Derived.Test.YtgapbaelifcifaaMA
namespace Go.Proofs.Ytgapbaelifcifaa
open Go.RowKit

theorem Try.info51 : (Try.prog.info? 51).map (fun i => (i.zero, i.size, i.bytes)) = some (some (.agg #[.int .i64 0, .int .i64 0]), 2, 16) := by kernel_rfl

/-- An own slice's array lies in no elder block: what is read there stands. -/
theorem below_of_grown {w W W' : World} {base : Nat} {e : TypeId} {size : Nat} {v : Value} {k : Nat} {xs : List Value} {o : Obj} (hb : Below base w W) (hrow : W.ownsRow base e size v k xs) (hg : (W.alloc o).grownBy W' v.ownBlock) (hB : base ≤ W.heap.size) : Below base w W' :=
  Below.grown (hb.alloc hB _) hg (by simp; omega) (fun j hj => by have := (hrow.lt _ hj).1; omega)

set_option maxRecDepth 100000 in
set_option maxHeartbeats 2000000 in
theorem stretchesR_any (L : List (Int × Int)) (len long short : Int) (n cap : Nat) (a : Option Addr) (w : World)
    (hL : L.length = n) (hn : n ≤ 60) (hS : Spans w a L) :
    Calls Try.prog 57 #[.agg #[.int .i64 len, .slice a n cap, .int .i64 long, .int .i64 short]] w fun e w' =>
      ∃ ra rc, e = .returned (.slice ra (strs len 0 L).length rc) ∧ Spans w' ra (strs len 0 L) ∧ Below w.heap.size w w' ∧ (strs len 0 L).length ≤ 61 := by
  have HL := hid hL
  clear hL
  obtain ⟨i0, hi, hz0, hz1, hz2⟩ := info_parts Try.info51
  go_enter Try.func57, Try.ntmps57
  go_wp2_with fail
  obtain ⟨W0, hW0⟩ : ∃ W0, W0 = w.alloc (.cells #[.int .i64 len, .slice a n cap, .int .i64 long, .int .i64 short] 24) := ⟨_, rfl⟩
  have hB0 : Below w.heap.size w W0 := by rw [hW0]; exact (Below.refl _ w).alloc (Nat.le_refl _) _
  have c0 : W0.cell? ⟨w.heap.size, 0, none⟩ = some (.int .i64 len) := by rw [hW0]; simp
  have c1 : W0.cell? ⟨w.heap.size, 1, none⟩ = some (.slice a n cap) := by rw [hW0]; simp
  have z0 : W0.heap.size = w.heap.size + 1 := by rw [hW0]; simp
  rw [← hW0]
  clear hW0
  go_loopw [3, 4, 5] (fun v f i wr => ∃ (k : Nat) (fr : Int) (pre : List (Int × Int)), k ≤ n ∧ i = .int .i64 k ∧ f = .int .i64 fr ∧ Hid (strs len 0 L = pre ++ strs len fr (L.drop k)) ∧ pre.length ≤ k ∧ wr.ownsRow (w.heap.size + 1) 51 2 v pre.length (flat2 pre) ∧ Below (w.heap.size + 1) W0 wr ∧ w.heap.size + 1 ≤ wr.heap.size) (fun _ _ i _ => n - (intOf i).toNat)
  case atStart => exact ⟨0, 0, [], Nat.zero_le _, rfl, rfl, rfl, Nat.zero_le _, World.ownsRow_nil _ _ _ _, Below.refl _ _, by omega⟩
  case round =>
    obtain ⟨k, fr, pre, hk, rfl, rfl, HP, hpk, hown, hB, hz⟩ := hrel
    have hBw : Below w.heap.size w wr := hB0.trans (hB.mono (by omega))
    rw [← z0] at hB
    replace c0 := cell_grown hB c0
    replace c1 := cell_grown hB c1
    rw [z0] at hB
    have gw := lt_of_cell c1
    by_cases hlt : k < n
    · obtain ⟨b, off, rfl, e1, e2⟩ := hS k (by rw [HL.out]; exact hlt)
      have gb0 := lt_of_cell e1
      replace e1 := cell_grown hBw e1
      replace e2 := cell_grown hBw e2
      have hst := strs_drop (len := len) (f := fr) (L := L) (k := k) (by rw [HL.out]; exact hlt)
      obtain ⟨x, hx⟩ : ∃ x, L.getD k (0, 0) = x := ⟨_, rfl⟩
      rw [hx] at e1 e2 hst
      have gb := lt_of_cell e1
      obtain ⟨v1, v2⟩ := x
      simp only at e1 e2 hst
      clear hx
      by_cases hf : fr < v1
      · have HP2 : Hid (strs len 0 L = (pre ++ [(fr, v1)]) ++ strs len v2 (L.drop (k + 1))) := hid (by rw [HP.out, hst, if_pos hf]; simp)
        clear hst HP
        go_wp2_with (at_builtin; refine wpList_append_own _ rfl _ _ 22 rfl (w.heap.size + 1) 51 i0 (.agg #[.int .i64 0, .int .i64 0]) 2 16 Try.underlying22 hi hz0 hz1 hz2 rfl (by decide) _ _ _ rfl (hown.alloc _) ⟨wr.heap.size, 0, none⟩ 1 1 [.int .i64 fr, .int .i64 v1] rfl rfl (cell_two_new _ _ _ _) (fun x hx => by simp at hx; rcases hx with rfl | rfl <;> rfl) (by unfold maxLen; omega) (by omega) (by simp; omega) ?_; intro v' w3 hown' hgrow3 hnil3; have hb3 := below_of_grown hB hown hgrow3 hz; have hz3 : w.heap.size + 1 ≤ w3.heap.size := Nat.le_trans hz (by have := hgrow3.size; simp at this; omega); have hbr := below_of_grown (Below.refl (w.heap.size + 1) wr) hown hgrow3 hz; have k0 := (hbr.cell (p := ⟨w.heap.size, 0, none⟩) (by simp)).trans c0; have k1 := (hbr.cell (p := ⟨w.heap.size, 1, none⟩) (by simp)).trans c1; have k2 := (hbr.cell (p := ⟨b, off + k * 2 + 1, none⟩) (by simp; omega)).trans e2)
        go_roundw
        case rel => exact ⟨k + 1, v2, pre ++ [(fr, v1)], by omega, by go_num, rfl, HP2, by simp; omega, by rw [List.length_append, flat2_append]; exact hown', hb3, hz3⟩
        case measure => simp [intOf]; omega
      · have HP2 : Hid (strs len 0 L = pre ++ strs len v2 (L.drop (k + 1))) := hid (by rw [HP.out, hst, if_neg hf])
        clear hst HP
        go_wp2
        go_roundw
        case rel => exact ⟨k + 1, v2, pre, by omega, by go_num, rfl, HP2, by omega, hown, hB, hz⟩
        case measure => simp [intOf]; omega
    · have hkn : k = n := by omega
      have HP1 : Hid (strs len 0 L = pre ++ if fr < len then [(fr, len)] else []) := hid (by rw [HP.out, List.drop_eq_nil_of_le (by rw [HL.out]; omega)]; rfl)
      clear HP
      by_cases hf : fr < len
      · have HP2 : Hid (strs len 0 L = pre ++ [(fr, len)]) := hid (by rw [HP1.out, if_pos hf])
        clear HP1
        go_wp2_with (at_builtin; refine wpList_append_own _ rfl _ _ 22 rfl (w.heap.size + 1) 51 i0 (.agg #[.int .i64 0, .int .i64 0]) 2 16 Try.underlying22 hi hz0 hz1 hz2 rfl (by decide) _ _ _ rfl (hown.alloc _) ⟨wr.heap.size, 0, none⟩ 1 1 [.int .i64 fr, .int .i64 len] rfl rfl (cell_two_new _ _ _ _) (fun x hx => by simp at hx; rcases hx with rfl | rfl <;> rfl) (by unfold maxLen; omega) (by omega) (by simp; omega) ?_; intro v' w3 hown' hgrow3 hnil3; have hb3 := below_of_grown hB hown hgrow3 hz; have hz3 : w.heap.size + 1 ≤ w3.heap.size := Nat.le_trans hz (by have := hgrow3.size; simp at this; omega))
        go_ret
        obtain ⟨ra, rc, rfl⟩ := owns_shape hown'
        have hs : flat2 (pre ++ [(fr, len)]) = flat2 pre ++ [.int .i64 fr, .int .i64 len] := flat2_append _ _
        rw [← hs] at hown'
        refine ⟨ra, rc, by rw [HP2.out, List.length_append]; rfl, by rw [HP2.out]; exact spans_of_owns (by rw [List.length_append]; exact hown'), hB0.trans (hb3.mono (by omega)), by rw [HP2.out]; simp; omega⟩
      · have HP2 : Hid (strs len 0 L = pre) := hid (by rw [HP1.out, if_neg hf]; simp)
        clear HP1
        obtain ⟨ra, rc, rfl⟩ := owns_shape hown
        have hsp := spans_of_owns hown
        have hl : Hid (pre.length ≤ 61) := hid (by omega)
        go_wp2
        go_ret
        rw [HP2.out]
        exact ⟨ra, ⟨rc, rfl⟩, hsp, hBw, hl.out⟩

end Go.Proofs.Ytgapbaelifcifaa

namespace Go.Proofs.Ytgapbaelifcifaa
open Go.RowKit

/-- Amid a stretch: these pieces are cut, from here on not. -/
def Mid (long short f t : Int) (q : List (Int × Int)) (z : Int) : Prop :=
  (piecesOf long short (f, t) = q ++ cutS long short (t - z).toNat z t ∧ (q ≠ [] → short ≤ t - z) ∧ z < t) ∨
  (∃ q' a, q = q' ++ [(a, z)] ∧ piecesOf long short (f, t) = q' ++ [(a, t)] ∧ 0 ≤ t - z ∧ t - z < short)

theorem mid_start {long short f t : Int} (h : f < t) : Mid long short f t [] f := .inl ⟨rfl, fun h => absurd rfl h, h⟩

theorem mid_step {long short f t : Int} {q : List (Int × Int)} {z : Int} (hs : 1 ≤ short) (hl : short ≤ long) (h : Mid long short f t q z) (hz : long ≤ t - z) : Mid long short f t (q ++ [(z, z + long)]) (z + long) := by
  rcases h with ⟨h1, h2, h3⟩ | ⟨q', a, _, _, _, h4⟩
  · have hst := cutS_step (long := long) (short := short) (by omega) h3
    by_cases hc : t - (z + long) < short
    · simp only [if_pos hc] at hst
      rw [cutS_done _ (by omega : ¬ t < t)] at hst
      exact .inr ⟨q, z, rfl, by rw [h1, hst], by omega, hc⟩
    · simp only [if_neg hc] at hst
      exact .inl ⟨by rw [h1, hst]; simp, fun _ => by omega, by omega⟩
  · omega

theorem mid_put {long short f t : Int} {q : List (Int × Int)} {z : Int} (hs : 1 ≤ short) (hl : short ≤ long) (h : Mid long short f t q z) (hz : t - z < long) (_ : 0 < t - z) (hc : short ≤ t - z ∨ q = []) : piecesOf long short (f, t) = q ++ [(z, t)] := by
  rcases h with ⟨h1, _, h3⟩ | ⟨q', a, hq, _, _, h4⟩
  · have hst := cutS_step (long := long) (short := short) (by omega) h3
    simp only [if_pos (show t - (z + long) < short by omega)] at hst
    rw [cutS_done _ (by omega : ¬ t < t)] at hst
    rw [h1, hst]
  · rcases hc with hc | hc
    · omega
    · rw [hq] at hc; simp at hc

theorem mid_stretch {long short f t : Int} {q : List (Int × Int)} {z : Int} (h : Mid long short f t q z) (hc : ¬ short ≤ t - z) (hq : q ≠ []) : ∃ q' a, q = q' ++ [(a, z)] ∧ piecesOf long short (f, t) = q' ++ [(a, t)] := by
  rcases h with ⟨_, h2, _⟩ | ⟨q', a, h1, h2, _, _⟩
  · exact absurd (h2 hq) hc
  · exact ⟨q', a, h1, h2⟩

theorem mid_done {long short f t : Int} {q : List (Int × Int)} {z : Int} (h : Mid long short f t q z) (h0 : ¬ 0 < t - z) : piecesOf long short (f, t) = q := by
  rcases h with ⟨_, _, h3⟩ | ⟨q', a, h1, h2, h3, _⟩
  · omega
  · rw [h2, h1, show z = t by omega]

theorem ownsRow_setAt {w : World} {base : Nat} {e : TypeId} {size g n cap i : Nat} {xs : List Value} (h : w.ownsRow base e size (.slice (some ⟨g, 0, none⟩) n cap) n xs) (_ : i < n * size) (u : Value) :
    (w.setCell ⟨g, i, none⟩ u).ownsRow base e size (.slice (some ⟨g, 0, none⟩) n cap) n (xs.set i u) := by
  obtain ⟨h1, h2⟩ := h
  rcases h2 with ⟨h0, _⟩ | ⟨g', cap', cur, hv, hg, hh, hn, hcap, hsz, htake⟩
  · cases h0
  · cases hv
    refine ⟨by rw [List.length_set]; exact h1, .inr ⟨g, cap, cur.setIfInBounds i u, rfl, hg, heap_setCell_same w g i cur e u hh, hn, hcap, by rw [Array.size_setIfInBounds]; exact hsz, ?_⟩⟩
    rw [Array.toList_setIfInBounds, List.take_set, htake]

theorem flat2_set (xs : List (Int × Int)) (a z t : Int) : (flat2 (xs ++ [(a, z)])).set (xs.length * 2 + 1) (.int .i64 t) = flat2 (xs ++ [(a, t)]) := by
  rw [flat2_append, flat2_append, List.set_append_right _ _ (by rw [flat2_length]; omega), flat2_length]
  rw [show xs.length * 2 + 1 - xs.length * 2 = 1 from by omega]
  rfl

end Go.Proofs.Ytgapbaelifcifaa

namespace Go.Proofs.Ytgapbaelifcifaa
open Go.RowKit

set_option maxRecDepth 100000 in
set_option maxHeartbeats 4000000 in
theorem takesR_all (L : List (Int × Int)) (len long short : Int) (n cap : Nat) (a : Option Addr) (w : World)
    (hL : L.length = n) (hn : n ≤ 60) (hS : Spans w a L) (hok : sitOk len long short L = true) :
    Calls Try.prog 25 #[.agg #[.int .i64 len, .slice a n cap, .int .i64 long, .int .i64 short]] w fun e w' =>
      ∃ ra rc, e = .returned (.slice ra (takesOf len long short L).length rc) ∧ (takesOf len long short L).length ≤ 10000000 ∧ Below w.heap.size w w' ∧ Spans w' ra (takesOf len long short L) := by
  have HL := hid hL
  clear hL
  obtain ⟨i0, hi, hz0, hz1, hz2⟩ := info_parts Try.info51
  obtain ⟨p1, p2, p3, p4⟩ := sitOk_parts hok
  have hSb : ∀ x ∈ strs len 0 L, 0 ≤ x.1 ∧ x.1 < x.2 ∧ x.2 ≤ 36000 := fun x hx => by
    have h1 := strs_bd L 0 (Int.le_refl _) (pausesOk_bd p4) x hx
    have h2 := (strs_mem L 0 x hx).1
    omega
  have HSB := hid hSb
  have hT : takesOf len long short L = (strs len 0 L).flatMap (piecesOf long short) := rfl
  obtain ⟨T, hTT⟩ : ∃ T, takesOf len long short L = T := ⟨_, rfl⟩
  rw [hTT] at hT ⊢
  have HT := hid hT
  clear hT hTT hSb hok p4
  go_enter Try.func25, Try.ntmps25
  go_wp2_with fail
  obtain ⟨W0, hW0⟩ : ∃ W0, W0 = w.alloc (.cells #[.int .i64 len, .slice a n cap, .int .i64 long, .int .i64 short] 24) := ⟨_, rfl⟩
  have hB0 : Below w.heap.size w W0 := by rw [hW0]; exact (Below.refl _ w).alloc (Nat.le_refl _) _
  have c2 : W0.cell? ⟨w.heap.size, 2, none⟩ = some (.int .i64 long) := by rw [hW0]; simp
  have c3 : W0.cell? ⟨w.heap.size, 3, none⟩ = some (.int .i64 short) := by rw [hW0]; simp
  have z0 : W0.heap.size = w.heap.size + 1 := by rw [hW0]; simp
  rw [← hW0]
  clear hW0
  refine (stretchesR_any L len long short n cap a W0 HL.out hn (hS.grown hB0)).mono ?_
  rintro e W1 ⟨ra, rc, rfl, hS1, hb1, h61⟩
  have z1 := hb1.size
  replace c2 := cell_grown hb1 c2
  replace c3 := cell_grown hb1 c3
  have hB1 : Below w.heap.size w W1 := hB0.trans (hb1.mono (by omega))
  obtain ⟨S, hSS⟩ : ∃ S, strs len 0 L = S := ⟨_, rfl⟩
  rw [hSS] at hS1 h61 HT HSB ⊢
  obtain ⟨m, hm⟩ : ∃ m, S.length = m := ⟨_, rfl⟩
  rw [hm] at h61 ⊢
  have HM := hid hm
  clear hSS hm hb1 hB0
  go_wp2_with fail
  go_loopw [3, 5] (fun v i wr => ∃ (k : Nat) (pre : List (Int × Int)), k ≤ m ∧ i = .int .i64 k ∧ Hid (T = pre ++ (S.drop k).flatMap (piecesOf long short)) ∧ pre.length ≤ k * 36001 ∧ wr.ownsRow W1.heap.size 51 2 v pre.length (flat2 pre) ∧ Below W1.heap.size W1 wr) (fun _ i _ => m - (intOf i).toNat)
  case atStart => exact ⟨0, [], Nat.zero_le _, rfl, HT, Nat.zero_le _, World.ownsRow_nil _ _ _ _, Below.refl _ _⟩
  case round =>
    obtain ⟨k, pre, hk, rfl, HP, hpk, hown, hB⟩ := hrel
    have zr := hB.size
    have d2 := cell_grown hB c2
    have d3 := cell_grown hB c3
    have gw := lt_of_cell c2
    by_cases hlt : k < m
    · obtain ⟨b, off, rfl, e1, e2⟩ := hS1 k (by rw [HM.out]; exact hlt)
      have gb0 := lt_of_cell e1
      have f1 := cell_grown hB e1
      have f2 := cell_grown hB e2
      have hmem : S.getD k (0, 0) ∈ S := by rw [List.getD_eq_getElem?_getD, List.getElem?_eq_getElem (by rw [HM.out]; exact hlt), Option.getD_some]; exact List.getElem_mem _
      have hbd := HSB.out _ hmem
      have hdr : (S.drop k).flatMap (piecesOf long short) = piecesOf long short (S.getD k (0, 0)) ++ (S.drop (k + 1)).flatMap (piecesOf long short) := by
        rw [List.drop_eq_getElem_cons (by rw [HM.out]; exact hlt), List.flatMap_cons]
        simp [List.getElem?_eq_getElem (show k < S.length by rw [HM.out]; exact hlt)]
      obtain ⟨x, hx⟩ : ∃ x, S.getD k (0, 0) = x := ⟨_, rfl⟩
      rw [hx] at e1 e2 f1 f2 hbd hdr
      obtain ⟨f, t⟩ := x
      simp only at e1 e2 f1 f2 hbd
      have HP2 : Hid (T = pre ++ (piecesOf long short (f, t) ++ (S.drop (k + 1)).flatMap (piecesOf long short))) := hid (by rw [HP.out, hdr])
      clear hx hdr hmem HP
      have hkm : (k : Int) < m := by omega
      go_wp2_with fail
      go_loopw [3, 6, 7] (fun v zz mm wi => ∃ (q : List (Int × Int)) (z : Int), zz = .int .i64 z ∧ mm = .int .i64 (q.length : Int) ∧ Hid (Mid long short f t q z) ∧ f + q.length ≤ z ∧ z ≤ t ∧ wi.ownsRow W1.heap.size 51 2 v (pre ++ q).length (flat2 (pre ++ q)) ∧ Below W1.heap.size W1 wi) (fun _ zz _ _ => (t - intOf zz).toNat)
      case atStart => exact ⟨[], f, rfl, rfl, mid_start hbd.2.1, by simp, by omega, by rw [List.append_nil]; exact hown, hB⟩
      case round =>
        obtain ⟨q, z, rfl, rfl, HQ, hq1, hq2, hown2, hB2⟩ := hrel
        have g2 := cell_grown hB2 c2
        have g3 := cell_grown hB2 c3
        have g4 := cell_grown hB2 e2
        have zi := hB2.size
        clear d2 d3 f1 f2 hown hB zr
        have hql : Hid (q.length ≤ 36000) := hid (by omega)
        have hqn : q.length ≤ 36000 := hql.out
        by_cases hc : long ≤ t - z
        · have HQ2 := hid (mid_step p3.1 p3.2 HQ.out hc)
          go_wp2_with fail
          go_quiet (fail)
          have hBq := below_drewN hB2 nq
          have hownq : (wr.drewN nq).ownsRow W1.heap.size 51 2 _ (pre ++ q).length (flat2 (pre ++ q)) := hown2
          go_wp2_with (at_builtin; refine wpList_append_own _ rfl _ _ 22 rfl W1.heap.size 51 i0 (.agg #[.int .i64 0, .int .i64 0]) 2 16 Try.underlying22 hi hz0 hz1 hz2 rfl (by decide) _ _ _ rfl (hownq.alloc _) ⟨wr.heap.size, 0, none⟩ 1 1 [.int .i64 z, .int .i64 (z + long)] rfl rfl (cell_two_new _ _ _ _) (fun x hx => by simp at hx; rcases hx with rfl | rfl <;> rfl) (by unfold maxLen; simp; omega) (by simp; omega) (by simp; omega) ?_; intro v' w3 hown' hgrow3 hnil3; have hb3 := below_of_grown hBq hownq hgrow3 zi; have k2 := cell_grown hb3 c2; have k3 := cell_grown hb3 c3; have k4 := cell_grown hb3 e2)
          go_roundw
          case rel => exact ⟨q ++ [(z, z + long)], z + long, rfl, by simp, HQ2, by simp; omega, by omega, by rw [← List.append_assoc, flat2_append, List.length_append]; exact hown', hb3⟩
          case measure => simp [intOf]; omega
        · go_wp2_with fail
          go_quiet (fail)
          have hBq := below_drewN hB2 nq
          have hownq : (wr.drewN nq).ownsRow W1.heap.size 51 2 _ (pre ++ q).length (flat2 (pre ++ q)) := hown2
          by_cases h0 : 0 < t - z
          · by_cases hsz : short ≤ t - z
            · have HPU := hid (mid_put p3.1 p3.2 HQ.out (by omega) h0 (.inl hsz))
              go_wp2_with (at_builtin; refine wpList_append_own _ rfl _ _ 22 rfl W1.heap.size 51 i0 (.agg #[.int .i64 0, .int .i64 0]) 2 16 Try.underlying22 hi hz0 hz1 hz2 rfl (by decide) _ _ _ rfl (hownq.alloc _) ⟨wr.heap.size, 0, none⟩ 1 1 [.int .i64 z, .int .i64 t] rfl rfl (cell_two_new _ _ _ _) (fun x hx => by simp at hx; rcases hx with rfl | rfl <;> rfl) (by unfold maxLen; simp; omega) (by simp; omega) (by simp; omega) ?_; intro v' w3 hown' hgrow3 hnil3; have hb3 := below_of_grown hBq hownq hgrow3 zi; have k2 := cell_grown hb3 c2; have k3 := cell_grown hb3 c3; have k4 := cell_grown hb3 e2)
              go_roundw
              case rel => exact ⟨k + 1, pre ++ (q ++ [(z, t)]), by omega, by go_num, hid (by rw [HP2.out, HPU.out]; simp), by have := hql.out; simp; omega, by rw [← List.append_assoc, flat2_append, List.length_append]; exact hown', hb3⟩
              case measure => simp [intOf]; omega
            · by_cases hq0 : q = []
              · subst hq0
                have HPU := hid (mid_put p3.1 p3.2 HQ.out (by omega) h0 (.inr rfl))
                go_wp2_with (at_builtin; refine wpList_append_own _ rfl _ _ 22 rfl W1.heap.size 51 i0 (.agg #[.int .i64 0, .int .i64 0]) 2 16 Try.underlying22 hi hz0 hz1 hz2 rfl (by decide) _ _ _ rfl (hownq.alloc _) ⟨wr.heap.size, 0, none⟩ 1 1 [.int .i64 z, .int .i64 t] rfl rfl (cell_two_new _ _ _ _) (fun x hx => by simp at hx; rcases hx with rfl | rfl <;> rfl) (by unfold maxLen; simp; omega) (by simp; omega) (by simp; omega) ?_; intro v' w3 hown' hgrow3 hnil3; have hb3 := below_of_grown hBq hownq hgrow3 zi; have k2 := cell_grown hb3 c2; have k3 := cell_grown hb3 c3; have k4 := cell_grown hb3 e2)
                go_roundw
                case rel => exact ⟨k + 1, pre ++ ([] ++ [(z, t)]), by omega, by go_num, hid (by rw [HP2.out, HPU.out]; simp), by simp; omega, by rw [← List.append_assoc, flat2_append, List.length_append]; exact hown', hb3⟩
                case measure => simp [intOf]; omega
              · obtain ⟨q', y, hqq, hP⟩ := mid_stretch HQ.out hsz hq0
                have HPU := hid hP
                have hqn0 : ¬ (q.length : Int) = 0 := fun e => hq0 (List.eq_nil_of_length_eq_zero (by omega))
                clear hP hq0 hown2
                have hlen : (pre ++ q).length = (pre ++ q').length + 1 := by rw [hqq]; simp; omega
                rw [hlen, hqq, ← List.append_assoc] at hownq
                have hN : (pre ++ q').length ≤ 10000000 := by have := hql.out; rw [List.length_append] at hlen ⊢; simp at hlen; omega
                obtain ⟨N, hNN⟩ : ∃ N, (pre ++ q').length = N := ⟨_, rfl⟩
                obtain ⟨Q, hQ⟩ : ∃ Q, pre ++ q' = Q := ⟨_, rfl⟩
                rw [hNN] at hownq hN
                rw [hQ] at hownq hNN
                have HQL := hid hNN
                have HQQ := hid hQ
                have HQ3 := hid hqq
                clear hqq hlen hNN hQ
                obtain ⟨g, cp, hu⟩ := ownsRow_succ hownq
                subst hu
                have hgb := (hownq.lt g rfl).1
                have hcell := hownq.cells (g := g) rfl (N * 2 + 1) (.int .i64 z) (by rw [flat2_append, List.getElem?_append_right (by rw [flat2_length, HQL.out]; omega), flat2_length, HQL.out, show N * 2 + 1 - N * 2 = 1 from by omega]; rfl)
                have hadd : (⟨g, 0, none⟩ : Addr).add (N * 2 + 1) = ⟨g, N * 2 + 1, none⟩ := by unfold Addr.add; split <;> simp_all
                rw [hadd] at hcell
                have hfr : (wr.drewN nq).frozen? ⟨g, N * 2 + 1, none⟩ = false := by
                  rcases hownq.2 with ⟨e, _⟩ | ⟨g', cap', cur, e, _, hh, _⟩
                  · cases e
                  · cases e
                    exact frozen_of_row _ _ _ _ _ hh
                have hset := ownsRow_setAt hownq (i := N * 2 + 1) (by omega) (.int .i64 t)
                rw [← HQL.out, flat2_set, HQL.out] at hset
                have hbs := hBq.setCell (p := ⟨g, N * 2 + 1, none⟩) (by simpa using hgb) (.int .i64 t)
                have HSET := hid hset
                clear hset hownq hadd
                go_wp2
                refine ⟨⟨k + 1, Q ++ [(y, t)], by omega, by go_num, hid (by rw [HP2.out, HPU.out, ← HQQ.out]; simp), ?_, by rw [List.length_append, HQL.out]; exact HSET.out, hbs⟩, by simp [intOf]; omega⟩
                have e1 := HQL.out
                have e2 := congrArg List.length HQQ.out
                have e3 := congrArg List.length HQ3.out
                have e4 := hql.out
                simp only [List.length_append, List.length_cons, List.length_nil] at e2 e3 ⊢
                omega
          · have HPU := hid (mid_done HQ.out h0)
            go_wp2
            go_roundw
            case rel => exact ⟨k + 1, pre ++ q, by omega, by go_num, hid (by rw [HP2.out, HPU.out]; simp), by have := hql.out; simp; omega, hownq, hBq⟩
            case measure => simp [intOf]; omega
    · have HE : Hid (T = pre) := hid (by rw [HP.out, List.drop_eq_nil_of_le (by rw [HM.out]; omega)]; simp)
      clear HP
      obtain ⟨va, vc, rfl⟩ := owns_shape hown
      have hl : Hid (pre.length ≤ 10000000) := hid (by omega)
      have hBw := hB1.trans (hB.mono (by omega))
      have HSP := hid (spans_of_owns hown)
      go_wp2
      go_ret
      rw [HE.out]
      exact ⟨va, vc, rfl, hl.out, hBw, HSP.out⟩

theorem takesR_any (L : List (Int × Int)) (len long short : Int) (n cap : Nat) (a : Option Addr) (w : World)
    (hL : L.length = n) (hn : n ≤ 60) (hS : Spans w a L) (hok : sitOk len long short L = true) :
    Calls Try.prog 25 #[.agg #[.int .i64 len, .slice a n cap, .int .i64 long, .int .i64 short]] w fun e w' =>
      ∃ ra rc, e = .returned (.slice ra (takesOf len long short L).length rc) ∧ (takesOf len long short L).length ≤ 10000000 ∧ Below w.heap.size w w' :=
  (takesR_all L len long short n cap a w hL hn hS hok).mono fun _ _ ⟨ra, rc, h1, h2, h3, _⟩ => ⟨ra, rc, h1, h2, h3⟩

end Go.Proofs.Ytgapbaelifcifaa
