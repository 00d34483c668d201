/- Contracts of the reference's Takes (with its room), its Fails, and of the law's few. -/
import Derived.Test.YtgapbaelifcifaaKB
import Derived.Test.YtgapbaelifcifaaEB
import Derived.RangeFuncBox
namespace Go.Proofs.Ytgapbaelifcifaa
open Go.RowKit

set_option maxRecDepth 100000 in
set_option maxHeartbeats 4000000 in
theorem takesR_own (L : List (Int × Int)) (len long short : Int) (n cap : Nat) (a : Option Addr) (w : World)
    (hL : L.length = n) (hn : n ≤ 60) (hS : Spans w a L) (hok : sitOk len long short L = true) :
    Calls Try.prog 25 #[.agg #[.int .i64 len, .slice a n cap, .int .i64 long, .int .i64 short]] w fun e w' =>
      ∃ ra rc, e = .returned (.slice ra (takesOf len long short L).length rc) ∧ (takesOf len long short L).length ≤ 10000000 ∧ Below w.heap.size w w' ∧ Spans w' ra (takesOf len long short L) ∧ (takesOf len long short L).length ≤ rc := by
  have HL := hid hL
  clear hL
  obtain ⟨i0, hi, hz0, hz1, hz2⟩ := info_parts Try.info51
  obtain ⟨p1, p2, p3, p4⟩ := sitOk_parts hok
  have hSb : ∀ x ∈ strs len 0 L, 0 ≤ x.1 ∧ x.1 < x.2 ∧ x.2 ≤ 36000 := fun x hx => by
    have h1 := strs_bd L 0 (Int.le_refl _) (pausesOk_bd p4) x hx
    have h2 := (strs_mem L 0 x hx).1
    omega
  have HSB := hid hSb
  have hT : takesOf len long short L = (strs len 0 L).flatMap (piecesOf long short) := rfl
  obtain ⟨T, hTT⟩ : ∃ T, takesOf len long short L = T := ⟨_, rfl⟩
  rw [hTT] at hT ⊢
  have HT := hid hT
  clear hT hTT hSb hok p4
  go_enter Try.func25, Try.ntmps25
  go_wp2_with fail
  obtain ⟨W0, hW0⟩ : ∃ W0, W0 = w.alloc (.cells #[.int .i64 len, .slice a n cap, .int .i64 long, .int .i64 short] 24) := ⟨_, rfl⟩
  have hB0 : Below w.heap.size w W0 := by rw [hW0]; exact (Below.refl _ w).alloc (Nat.le_refl _) _
  have c2 : W0.cell? ⟨w.heap.size, 2, none⟩ = some (.int .i64 long) := by rw [hW0]; simp
  have c3 : W0.cell? ⟨w.heap.size, 3, none⟩ = some (.int .i64 short) := by rw [hW0]; simp
  have z0 : W0.heap.size = w.heap.size + 1 := by rw [hW0]; simp
  rw [← hW0]
  clear hW0
  refine (stretchesR_any L len long short n cap a W0 HL.out hn (hS.grown hB0)).mono ?_
  rintro e W1 ⟨ra, rc, rfl, hS1, hb1, h61⟩
  have z1 := hb1.size
  replace c2 := cell_grown hb1 c2
  replace c3 := cell_grown hb1 c3
  have hB1 : Below w.heap.size w W1 := hB0.trans (hb1.mono (by omega))
  obtain ⟨S, hSS⟩ : ∃ S, strs len 0 L = S := ⟨_, rfl⟩
  rw [hSS] at hS1 h61 HT HSB ⊢
  obtain ⟨m, hm⟩ : ∃ m, S.length = m := ⟨_, rfl⟩
  rw [hm] at h61 ⊢
  have HM := hid hm
  clear hSS hm hb1 hB0
  go_wp2_with fail
  go_loopw [3, 5] (fun v i wr => ∃ (k : Nat) (pre : List (Int × Int)), k ≤ m ∧ i = .int .i64 k ∧ Hid (T = pre ++ (S.drop k).flatMap (piecesOf long short)) ∧ pre.length ≤ k * 36001 ∧ wr.ownsRow W1.heap.size 51 2 v pre.length (flat2 pre) ∧ Below W1.heap.size W1 wr) (fun _ i _ => m - (intOf i).toNat)
  case atStart => exact ⟨0, [], Nat.zero_le _, rfl, HT, Nat.zero_le _, World.ownsRow_nil _ _ _ _, Below.refl _ _⟩
  case round =>
    obtain ⟨k, pre, hk, rfl, HP, hpk, hown, hB⟩ := hrel
    have zr := hB.size
    have d2 := cell_grown hB c2
    have d3 := cell_grown hB c3
    have gw := lt_of_cell c2
    by_cases hlt : k < m
    · obtain ⟨b, off, rfl, e1, e2⟩ := hS1 k (by rw [HM.out]; exact hlt)
      have gb0 := lt_of_cell e1
      have f1 := cell_grown hB e1
      have f2 := cell_grown hB e2
      have hmem : S.getD k (0, 0) ∈ S := by rw [List.getD_eq_getElem?_getD, List.getElem?_eq_getElem (by rw [HM.out]; exact hlt), Option.getD_some]; exact List.getElem_mem _
      have hbd := HSB.out _ hmem
      have hdr : (S.drop k).flatMap (piecesOf long short) = piecesOf long short (S.getD k (0, 0)) ++ (S.drop (k + 1)).flatMap (piecesOf long short) := by
        rw [List.drop_eq_getElem_cons (by rw [HM.out]; exact hlt), List.flatMap_cons]
        simp [List.getElem?_eq_getElem (show k < S.length by rw [HM.out]; exact hlt)]
      obtain ⟨x, hx⟩ : ∃ x, S.getD k (0, 0) = x := ⟨_, rfl⟩
      rw [hx] at e1 e2 f1 f2 hbd hdr
      obtain ⟨f, t⟩ := x
      simp only at e1 e2 f1 f2 hbd
      have HP2 : Hid (T = pre ++ (piecesOf long short (f, t) ++ (S.drop (k + 1)).flatMap (piecesOf long short))) := hid (by rw [HP.out, hdr])
      clear hx hdr hmem HP
      have hkm : (k : Int) < m := by omega
      go_wp2_with fail
      go_loopw [3, 6, 7] (fun v zz mm wi => ∃ (q : List (Int × Int)) (z : Int), zz = .int .i64 z ∧ mm = .int .i64 (q.length : Int) ∧ Hid (Mid long short f t q z) ∧ f + q.length ≤ z ∧ z ≤ t ∧ wi.ownsRow W1.heap.size 51 2 v (pre ++ q).length (flat2 (pre ++ q)) ∧ Below W1.heap.size W1 wi) (fun _ zz _ _ => (t - intOf zz).toNat)
      case atStart => exact ⟨[], f, rfl, rfl, mid_start hbd.2.1, by simp, by omega, by rw [List.append_nil]; exact hown, hB⟩
      case round =>
        obtain ⟨q, z, rfl, rfl, HQ, hq1, hq2, hown2, hB2⟩ := hrel
        have g2 := cell_grown hB2 c2
        have g3 := cell_grown hB2 c3
        have g4 := cell_grown hB2 e2
        have zi := hB2.size
        clear d2 d3 f1 f2 hown hB zr
        have hql : Hid (q.length ≤ 36000) := hid (by omega)
        have hqn : q.length ≤ 36000 := hql.out
        by_cases hc : long ≤ t - z
        · have HQ2 := hid (mid_step p3.1 p3.2 HQ.out hc)
          go_wp2_with fail
          go_quiet (fail)
          have hBq := below_drewN hB2 nq
          have hownq : (wr.drewN nq).ownsRow W1.heap.size 51 2 _ (pre ++ q).length (flat2 (pre ++ q)) := hown2
          go_wp2_with (at_builtin; refine wpList_append_own _ rfl _ _ 22 rfl W1.heap.size 51 i0 (.agg #[.int .i64 0, .int .i64 0]) 2 16 Try.underlying22 hi hz0 hz1 hz2 rfl (by decide) _ _ _ rfl (hownq.alloc _) ⟨wr.heap.size, 0, none⟩ 1 1 [.int .i64 z, .int .i64 (z + long)] rfl rfl (cell_two_new _ _ _ _) (fun x hx => by simp at hx; rcases hx with rfl | rfl <;> rfl) (by unfold maxLen; simp; omega) (by simp; omega) (by simp; omega) ?_; intro v' w3 hown' hgrow3 hnil3; have hb3 := below_of_grown hBq hownq hgrow3 zi; have k2 := cell_grown hb3 c2; have k3 := cell_grown hb3 c3; have k4 := cell_grown hb3 e2)
          go_roundw
          case rel => exact ⟨q ++ [(z, z + long)], z + long, rfl, by simp, HQ2, by simp; omega, by omega, by rw [← List.append_assoc, flat2_append, List.length_append]; exact hown', hb3⟩
          case measure => simp [intOf]; omega
        · go_wp2_with fail
          go_quiet (fail)
          have hBq := below_drewN hB2 nq
          have hownq : (wr.drewN nq).ownsRow W1.heap.size 51 2 _ (pre ++ q).length (flat2 (pre ++ q)) := hown2
          by_cases h0 : 0 < t - z
          · by_cases hsz : short ≤ t - z
            · have HPU := hid (mid_put p3.1 p3.2 HQ.out (by omega) h0 (.inl hsz))
              go_wp2_with (at_builtin; refine wpList_append_own _ rfl _ _ 22 rfl W1.heap.size 51 i0 (.agg #[.int .i64 0, .int .i64 0]) 2 16 Try.underlying22 hi hz0 hz1 hz2 rfl (by decide) _ _ _ rfl (hownq.alloc _) ⟨wr.heap.size, 0, none⟩ 1 1 [.int .i64 z, .int .i64 t] rfl rfl (cell_two_new _ _ _ _) (fun x hx => by simp at hx; rcases hx with rfl | rfl <;> rfl) (by unfold maxLen; simp; omega) (by simp; omega) (by simp; omega) ?_; intro v' w3 hown' hgrow3 hnil3; have hb3 := below_of_grown hBq hownq hgrow3 zi; have k2 := cell_grown hb3 c2; have k3 := cell_grown hb3 c3; have k4 := cell_grown hb3 e2)
              go_roundw
              case rel => exact ⟨k + 1, pre ++ (q ++ [(z, t)]), by omega, by go_num, hid (by rw [HP2.out, HPU.out]; simp), by have := hql.out; simp; omega, by rw [← List.append_assoc, flat2_append, List.length_append]; exact hown', hb3⟩
              case measure => simp [intOf]; omega
            · by_cases hq0 : q = []
              · subst hq0
                have HPU := hid (mid_put p3.1 p3.2 HQ.out (by omega) h0 (.inr rfl))
                go_wp2_with (at_builtin; refine wpList_append_own _ rfl _ _ 22 rfl W1.heap.size 51 i0 (.agg #[.int .i64 0, .int .i64 0]) 2 16 Try.underlying22 hi hz0 hz1 hz2 rfl (by decide) _ _ _ rfl (hownq.alloc _) ⟨wr.heap.size, 0, none⟩ 1 1 [.int .i64 z, .int .i64 t] rfl rfl (cell_two_new _ _ _ _) (fun x hx => by simp at hx; rcases hx with rfl | rfl <;> rfl) (by unfold maxLen; simp; omega) (by simp; omega) (by simp; omega) ?_; intro v' w3 hown' hgrow3 hnil3; have hb3 := below_of_grown hBq hownq hgrow3 zi; have k2 := cell_grown hb3 c2; have k3 := cell_grown hb3 c3; have k4 := cell_grown hb3 e2)
                go_roundw
                case rel => exact ⟨k + 1, pre ++ ([] ++ [(z, t)]), by omega, by go_num, hid (by rw [HP2.out, HPU.out]; simp), by simp; omega, by rw [← List.append_assoc, flat2_append, List.length_append]; exact hown', hb3⟩
                case measure => simp [intOf]; omega
              · obtain ⟨q', y, hqq, hP⟩ := mid_stretch HQ.out hsz hq0
                have HPU := hid hP
                have hqn0 : ¬ (q.length : Int) = 0 := fun e => hq0 (List.eq_nil_of_length_eq_zero (by omega))
                clear hP hq0 hown2
                have hlen : (pre ++ q).length = (pre ++ q').length + 1 := by rw [hqq]; simp; omega
                rw [hlen, hqq, ← List.append_assoc] at hownq
                have hN : (pre ++ q').length ≤ 10000000 := by have := hql.out; rw [List.length_append] at hlen ⊢; simp at hlen; omega
                obtain ⟨N, hNN⟩ : ∃ N, (pre ++ q').length = N := ⟨_, rfl⟩
                obtain ⟨Q, hQ⟩ : ∃ Q, pre ++ q' = Q := ⟨_, rfl⟩
                rw [hNN] at hownq hN
                rw [hQ] at hownq hNN
                have HQL := hid hNN
                have HQQ := hid hQ
                have HQ3 := hid hqq
                clear hqq hlen hNN hQ
                obtain ⟨g, cp, hu⟩ := ownsRow_succ hownq
                subst hu
                have hgb := (hownq.lt g rfl).1
                have hcell := hownq.cells (g := g) rfl (N * 2 + 1) (.int .i64 z) (by rw [flat2_append, List.getElem?_append_right (by rw [flat2_length, HQL.out]; omega), flat2_length, HQL.out, show N * 2 + 1 - N * 2 = 1 from by omega]; rfl)
                have hadd : (⟨g, 0, none⟩ : Addr).add (N * 2 + 1) = ⟨g, N * 2 + 1, none⟩ := by unfold Addr.add; split <;> simp_all
                rw [hadd] at hcell
                have hfr : (wr.drewN nq).frozen? ⟨g, N * 2 + 1, none⟩ = false := by
                  rcases hownq.2 with ⟨e, _⟩ | ⟨g', cap', cur, e, _, hh, _⟩
                  · cases e
                  · cases e
                    exact frozen_of_row _ _ _ _ _ hh
                have hset := ownsRow_setAt hownq (i := N * 2 + 1) (by omega) (.int .i64 t)
                rw [← HQL.out, flat2_set, HQL.out] at hset
                have hbs := hBq.setCell (p := ⟨g, N * 2 + 1, none⟩) (by simpa using hgb) (.int .i64 t)
                have HSET := hid hset
                clear hset hownq hadd
                go_wp2
                refine ⟨⟨k + 1, Q ++ [(y, t)], by omega, by go_num, hid (by rw [HP2.out, HPU.out, ← HQQ.out]; simp), ?_, by rw [List.length_append, HQL.out]; exact HSET.out, hbs⟩, by simp [intOf]; omega⟩
                have e1 := HQL.out
                have e2 := congrArg List.length HQQ.out
                have e3 := congrArg List.length HQ3.out
                have e4 := hql.out
                simp only [List.length_append, List.length_cons, List.length_nil] at e2 e3 ⊢
                omega
          · have HPU := hid (mid_done HQ.out h0)
            go_wp2
            go_roundw
            case rel => exact ⟨k + 1, pre ++ q, by omega, by go_num, hid (by rw [HP2.out, HPU.out]; simp), by have := hql.out; simp; omega, hownq, hBq⟩
            case measure => simp [intOf]; omega
    · have HE : Hid (T = pre) := hid (by rw [HP.out, List.drop_eq_nil_of_le (by rw [HM.out]; omega)]; simp)
      clear HP
      obtain ⟨va, vc, rfl⟩ := owns_shape hown
      have hl : Hid (pre.length ≤ 10000000) := hid (by omega)
      have hBw := hB1.trans (hB.mono (by omega))
      have HSP := hid (spans_of_owns hown)
      have HOC := hid (owns_cap hown).1
      go_wp2
      go_ret
      rw [HE.out]
      exact ⟨va, vc, rfl, hl.out, hBw, HSP.out, HOC.out⟩

theorem take_getD' {T : List (Int × Int)} {k j : Nat} (h : j < k) : (T.take k).getD j (0, 0) = T.getD j (0, 0) := by
  simp [List.getD_eq_getElem?_getD, List.getElem?_take, h]

theorem spans_take {w : World} {a : Option Addr} {T : List (Int × Int)} {k : Nat} (h : Spans w a T) : Spans w a (T.take k) := by
  intro i hi
  rw [List.length_take] at hi
  rw [take_getD' (by omega)]
  exact h i (by omega)

/-- Is there no list for the first takes? -/
def noneM (due delay : Int) (C : List (Int × Int × Int)) (T : List (Int × Int)) (k : Nat) : Prop := dfs (okM (-1) due delay C (T.take k)) C.length k [] = none

theorem rota_is {ok : List Nat → Bool} {cn d : Nat} {w' : World} {e : Ending} (h : (∃ (va : Option Addr) (vn vc : Nat) (X : List Nat), e = .returned (.tuple #[.slice va vn vc, .bool true]) ∧ X.length = vn ∧ Ints w' va (X.map fun r : Nat => (r : Int)) ∧ dfs ok cn d [] = some X) ∨
       e = .returned (.tuple #[.slice none 0 0, .bool false]) ∧ dfs ok cn d [] = none) :
    ∃ (va : Option Addr) (vn vc : Nat) (is : Bool), e = .returned (.tuple #[.slice va vn vc, .bool is]) ∧ Hid (match is with | true => ¬ dfs ok cn d [] = none | false => True → dfs ok cn d [] = none) := by
  rcases h with ⟨va, vn, vc, X, rfl, -, -, hd⟩ | ⟨rfl, hd⟩
  · exact ⟨va, vn, vc, true, rfl, hid (by rw [hd]; simp)⟩
  · exact ⟨none, 0, 0, false, rfl, hid (fun _ => hd)⟩

set_option maxRecDepth 100000 in
set_option maxHeartbeats 4000000 in
theorem failsR_any (C : List (Int × Int × Int)) (T : List (Int × Int)) (due delay : Int) (cn cc n tc : Nat) (ca ta : Option Addr) (w : World) (hC : C.length = cn) (hcn : cn ≤ 5) (hbC : ∀ i, i < cn → 0 ≤ (C.getD i (0, 0, 0)).1 ∧ (C.getD i (0, 0, 0)).1 ≤ (C.getD i (0, 0, 0)).2.1 ∧ (C.getD i (0, 0, 0)).2.1 ≤ 20 ∧ 0 ≤ (C.getD i (0, 0, 0)).2.2 ∧ (C.getD i (0, 0, 0)).2.2 ≤ 36000) (hT : T.length = n) (hn : n ≤ 40) (hbT : ∀ k, k < n → 0 ≤ (T.getD k (0, 0)).1 ∧ (T.getD k (0, 0)).1 < (T.getD k (0, 0)).2 ∧ (T.getD k (0, 0)).2 ≤ 36000) (hdue : 0 ≤ due ∧ due ≤ 36000) (hdl : 0 ≤ delay ∧ delay ≤ 36000)
    (hCr : Crew w ca C) (hST : Spans w ta T) (htc : n ≤ tc) :
    Calls Try.prog 33 #[.agg #[.slice ca cn cc, .int .i64 due, .int .i64 delay], .slice ta n tc] w fun e w' => ∃ z : Int, e = .returned (.int .i64 z) ∧ Below w.heap.size w w' ∧
      Hid ((z = -1 ∧ ∀ k, k < n → ¬ noneM due delay C T (k + 1)) ∨ ∃ q : Nat, z = (q : Int) ∧ q < n ∧ noneM due delay C T (q + 1) ∧ ∀ k, k < q → ¬ noneM due delay C T (k + 1)) := by
  have HC := hid hC
  have HT := hid hT
  have HBC := hid hbC
  have HBT := hid hbT
  clear hC hT hbC hbT
  go_enter Try.func33, Try.ntmps33
  go_wp2_with fail
  obtain ⟨W0, hW0⟩ : ∃ W, W = w.alloc (.cells #[.slice ca cn cc, .int .i64 due, .int .i64 delay] 27) := ⟨_, rfl⟩
  have hB0 : Below w.heap.size w W0 := by rw [hW0]; exact (Below.refl _ w).alloc (Nat.le_refl _) _
  have x0 : W0.cell? ⟨w.heap.size, 0, none⟩ = some (.slice ca cn cc) := by rw [hW0]; simp [go_sem]
  have x1 : W0.cell? ⟨w.heap.size, 1, none⟩ = some (.int .i64 due) := by rw [hW0]; simp [go_sem]
  have x2 : W0.cell? ⟨w.heap.size, 2, none⟩ = some (.int .i64 delay) := by rw [hW0]; simp [go_sem]
  have zW : W0.heap.size = w.heap.size + 1 := by rw [hW0]; simp
  rw [← hW0]
  clear hW0
  go_loopw [5] (fun i wr => ∃ k : Nat, k ≤ n ∧ i = .int .i64 ((k : Int) + 1) ∧ Hid (∀ j, j < k → ¬ noneM due delay C T (j + 1)) ∧ Below W0.heap.size W0 wr) (fun i _ => n + 1 - (intOf i).toNat)
  case atStart => exact ⟨0, Nat.zero_le _, rfl, hid (fun j hj => by omega), Below.refl _ _⟩
  case round =>
    obtain ⟨k, hk, rfl, HK, hB⟩ := hrel
    have hzr := hB.size
    have hBw : Below w.heap.size w wr := hB0.trans (hB.mono (by omega))
    have y0 := cell_grown hB x0
    have y1 := cell_grown hB x1
    have y2 := cell_grown hB x2
    have gw : w.heap.size < wr.heap.size := by omega
    by_cases hlt : k < n
    · have hki : (k : Int) + 1 ≤ n := by omega
      have hwk : IntKind.i64.wrap ((k : Int) + 1 + 1) = (k : Int) + 1 + 1 := by rw [IntKind.wrap_i64]; omega
      have hwk2 : IntKind.i64.wrap ((k : Int) + 1 - 1) = (k : Int) := by rw [IntKind.wrap_i64]; omega
      have hk0 : (0 : Int) ≤ (k : Int) + 1 := by omega
      have hk1 : (k : Int) + 1 ≤ tc := by omega
      have htn : ((k : Int) + 1).toNat = k + 1 := by omega
      have hBd : Below wr.heap.size wr wr.drew := (Below.refl _ _).drew
      have hlk : (T.take (k + 1)).length = k + 1 := by rw [List.length_take, HT.out]; omega
      have HLK := hid hlk
      have HBK : Hid (∀ j, j < k + 1 → 0 ≤ ((T.take (k + 1)).getD j (0, 0)).1 ∧ ((T.take (k + 1)).getD j (0, 0)).1 < ((T.take (k + 1)).getD j (0, 0)).2 ∧ ((T.take (k + 1)).getD j (0, 0)).2 ≤ 36000) := hid (fun j hj => by rw [take_getD' hj]; exact HBT.out j (by omega))
      have hIN : ∀ W : World, Ints W none (([] : List Nat).map fun r : Nat => (r : Int)) := fun W i hi => by simp at hi
      obtain ⟨tb, to, eta, -, -⟩ := hST k (by rw [HT.out]; exact hlt)
      subst eta
      have htc0 : ¬ tc = 0 := by omega
      clear hlk
      go_wp2_with fail
      go_region_held3 (fun w' : World => w'.cell? ⟨w.heap.size, 0, none⟩ = some (.slice ca cn cc) ∧ w'.cell? ⟨w.heap.size, 1, none⟩ = some (.int .i64 due) ∧ w'.cell? ⟨w.heap.size, 2, none⟩ = some (.int .i64 delay)) (exact ⟨y0, y1, y2⟩) (first | (go_at_call 32; replace y0 := cell_grown hBd y0; replace y1 := cell_grown hBd y1; replace y2 := cell_grown hBd y2; refine (rotaR_any C (T.take (k + 1)) due delay (-1) cn cc (k + 1) _ ca _ HC.out hcn HBC.out HLK.out (by omega) HBK.out hdue hdl (k + 1) [] 0 0 none _ (by omega) rfl (fun j h => by omega) ((hCr.grown hBw).grown hBd) (spans_take ((hST.grown hBw).grown hBd)) (hIN _)).mono ?_; rintro e w4 ⟨hb4, hpost⟩; have hb14 := hBd.trans (hb4.mono hBd.size); replace y0 := cell_grown hb4 y0; replace y1 := cell_grown hb4 y1; replace y2 := cell_grown hb4 y2; obtain ⟨va, vn, vc, is, rfl, HIS⟩ := rota_is hpost))
      have hB4 := hB.trans (hb14.mono hB.size)
      cases is
      · have hno : noneM due delay C T (k + 1) := by unfold noneM; rw [HC.out]; exact HIS.out trivial
        have HNO := hid hno
        clear hno HIS
        go_wp2_with fail
        go_ret
        exact ⟨k, rfl, hBw.trans (hb14.mono hBw.size), hid (.inr ⟨k, rfl, hlt, HNO.out, HK.out⟩)⟩
      · have hno : ¬ noneM due delay C T (k + 1) := by unfold noneM; rw [HC.out]; exact HIS.out
        have HNO := hid hno
        clear hno HIS
        go_wp2_with fail
        go_roundw
        case rel => exact ⟨k + 1, by omega, by go_num, hid (fun j hj => by
          by_cases e : j = k
          · subst e; exact HNO.out
          · exact HK.out j (by omega)), hB4⟩
        case measure => simp [intOf]; omega
    · have hkn : k = n := by omega
      subst hkn
      have hki : ¬ (k : Int) + 1 ≤ k := by omega
      go_wp2_with fail
      go_ret
      exact ⟨-1, rfl, hBw, hid (.inl ⟨rfl, HK.out⟩)⟩

end Go.Proofs.Ytgapbaelifcifaa
