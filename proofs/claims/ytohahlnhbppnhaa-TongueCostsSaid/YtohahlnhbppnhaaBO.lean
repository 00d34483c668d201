/- Tongue, the reference: the report that counts. -/
import Derived.Test.YtohahlnhbppnhaaBN
import Derived.Test.YtohahlnhbppnhaaBK
namespace Go.Proofs.Ytohahlnhbppnhaa
open Go.RowKit
set_option linter.unusedSimpArgs false
set_option linter.unusedVariables false

theorem Try.info69 : (Try.prog.info? 69).map (fun i => (i.zero, i.size, i.bytes)) = some (some (.agg #[.int .u8 0, .int .i64 0]), 2, 16) := by kernel_rfl

theorem pieces_of_owns69 {W : World} {B : Nat} {a : Option Addr} {cap : Nat} {l : List (Int × Int)} (h : W.ownsRow B 69 2 (.slice a l.length cap) l.length (flatC l)) : PiecesAt W a l := by
  intro i hi
  rcases h.2 with ⟨hv, h0⟩ | ⟨g, cap', cur, hv, _⟩
  · omega
  · simp only [Value.slice.injEq] at hv
    obtain ⟨rfl, -, rfl⟩ := hv
    have hc := h.cells (g := g) rfl
    obtain ⟨e0, e1⟩ := flatC_get l i hi
    have c0 := hc _ _ e0
    have c1 := hc _ _ e1
    rw [add_plain] at c0 c1
    exact ⟨g, 0, rfl, c0, by rw [Nat.add_assoc]; exact c1⟩

set_option maxRecDepth 100000 in
set_option maxHeartbeats 1000000 in
theorem refCounts_any (l : List (Int × Int)) (lead : List Bool) (ms : List (Nat × Nat × Nat × Nat)) (nl nr n sc lc : Nat) (sa ld : Option Addr) (w : World) (hl : l.length = n) (hn : n ≤ 1000) (hnl : nl ≤ 1000) (hnr : nr ≤ 1000) (hmm : matchM nl nr l = some ms) (hln : lead.length = nl) (hP : PairsAt w sa l) (hLd : BoolsAt w ld lead) :
    Calls Try.prog 37 #[.slice sa n sc, .slice ld nl lc] w fun e w' => ∃ r rc, e = .returned (.slice r (countM lead ms n).length rc) ∧ PiecesAt w' r (countM lead ms n) ∧ (countM lead ms n).length ≤ 2 * n ∧ Below w.heap.size w w' := by
  obtain ⟨i0, hi0, hz0, hz1, hz2⟩ := info_parts Try.info69
  have hfit := match_fits hmm
  have hml : ms.length = n := by rw [hfit.1, hl]
  have HEN : Hid (∀ j, j < n → ∃ a c X Y : Nat, ms.getD j default = (a, c, X, Y) ∧ sumL (l.take j) = (a : Int) ∧ sumR (l.take j) = (c : Int) ∧ (l.getD j (0, 0)).1 = (X : Int) ∧ (l.getD j (0, 0)).2 = (Y : Int) ∧ a + X ≤ nl ∧ c + Y ≤ nr ∧ X ≤ 2 ∧ Y ≤ 2) := hid (fun j hj => by
    obtain ⟨h1, h2, h3, h4, h5⟩ := go_entries nl nr l 0 0 ms nl nr (match_parts hmm) j (by omega)
    have hmem : ms.getD j default ∈ ms := by
      rw [List.getD_eq_getElem?_getD, List.getElem?_eq_getElem (by omega)]
      exact List.getElem_mem _
    have hf := hfit.2 _ hmem
    rw [h1] at hf
    simp only at hf
    refine ⟨_, _, _, _, h1, ?_, ?_, ?_, ?_, hf.1, hf.2.1, hf.2.2.1, hf.2.2.2.1⟩
    · omega
    · omega
    · omega
    · omega)
  have HST : Hid (∀ j, j < n → sumL (l.take (j + 1)) = sumL (l.take j) + (l.getD j (0, 0)).1 ∧ sumR (l.take (j + 1)) = sumR (l.take j) + (l.getD j (0, 0)).2) := hid (fun j hj => sum_take l j (by omega))
  have HSU : Hid (∀ j, j < n → countM lead ms (j + 1) = countM lead ms j ++ pieceM lead (ms.getD j default)) := hid (fun j hj => countM_succ lead ms j (by omega))
  have HP0 : Hid (∀ i t, partC 0 i (t + 1) = partC 0 i t ++ [(0, ((i + t : Nat) : Int))]) := hid (partC_succ 0)
  have HP1 : Hid (∀ i t, partC 1 i (t + 1) = partC 1 i t ++ [(1, ((i + t : Nat) : Int))]) := hid (partC_succ 1)
  have HL := hid hl
  have HLN := hid hln
  clear hl hln hmm hfit hml
  go_enter Try.func37, Try.ntmps37
  go_wp2_with fail
  go_loopw [5, 6, 7, 8, 9, 10, 11, 12] (fun v iv kv jv _ _ _ _ wr => ∃ (j a c : Nat), j ≤ n ∧ jv = .int .i64 j ∧ iv = .int .i64 a ∧ kv = .int .i64 c ∧ Hid (sumL (l.take j) = (a : Int)) ∧ Hid (sumR (l.take j) = (c : Int)) ∧ wr.ownsRow w.heap.size 69 2 v (countM lead ms j).length (flatC (countM lead ms j)) ∧ (countM lead ms j).length ≤ 2 * j ∧ Below w.heap.size w wr) (fun _ _ _ jv _ _ _ _ _ => n - (intOf jv).toNat)
  case atStart => exact ⟨0, 0, 0, Nat.zero_le _, rfl, rfl, rfl, hid rfl, hid rfl, World.ownsRow_nil _ _ _ _, Nat.le_refl _, Below.refl _ _⟩
  case round =>
    obtain ⟨j, a, c, hj, rfl, rfl, rfl, HA, HC, hown, hcl2, hB⟩ := hrel
    obtain ⟨va, vc, rfl⟩ := owns_shape hown
    by_cases hlt : j < n
    · have hlt' : (j : Int) < n := by omega
      have hj0 : (0 : Int) ≤ (j : Int) := by omega
      obtain ⟨b1, o1, es, s1, s2⟩ := (hP.grown hB) j (by rw [HL.out]; exact hlt)
      subst es
      obtain ⟨a', c', X, Y, hm, h1, h2, h3, h4, f1, f2, f3, f4⟩ := HEN.out j hlt
      have ea : a' = a := by have := HA.out; omega
      have ec : c' = c := by have := HC.out; omega
      subst ea ec
      have hst := HST.out j hlt
      have hsu := HSU.out j hlt
      rw [hm] at hsu
      rw [h1, h2, h3, h4] at hst
      rw [h3] at s1
      rw [h4] at s2
      have gs := lt_of_cell s1
      have hle : 0 < X → ∃ b o, ld = some ⟨b, o, none⟩ ∧ wr.cell? ⟨b, o + a', none⟩ = some (.bool (lead.getD a' false)) := fun h => (hLd.grown hB) a' (by rw [HLN.out]; omega)
      have hpe : pieceM lead (a', c', X, Y) = if leftsM lead (a', c', X, Y) then partC 0 a' X else partC 1 c' Y := rfl
      have hlm : leftsM lead (a', c', X, Y) = (decide (0 < X) && (decide (Y = 0) || lead.getD a' false)) := rfl
      rw [hpe, hlm] at hsu
      obtain ⟨dl, hdl⟩ : ∃ dl, (countM lead ms j).length = dl := ⟨_, rfl⟩
      rw [hdl] at hown hcl2
      simp only [hdl]
      have HDL := hid hdl
      have HS := hid hsu
      have hsA : sumL (l.take (j + 1)) = ((a' + X : Nat) : Int) := by rw [hst.1]; omega
      have hsC : sumR (l.take (j + 1)) = ((c' + Y : Nat) : Int) := by rw [hst.2]; omega
      obtain ⟨e, he⟩ : ∃ e, a' + X = e := ⟨_, rfl⟩
      obtain ⟨f, hf⟩ : ∃ f, c' + Y = f := ⟨_, rfl⟩
      rw [he] at hsA
      rw [hf] at hsC
      have HSA := hid hsA
      have HSC := hid hsC
      have w1 : IntKind.i64.wrap ((a' : Int) + X) = (e : Int) := by rw [IntKind.wrap_i64]; omega
      have w2 : IntKind.i64.wrap ((c' : Int) + Y) = (f : Int) := by rw [IntKind.wrap_i64]; omega
      have HE := hid he
      have HF := hid hf
      have b1e : e ≤ 1000 := by omega
      have b1f : f ≤ 1000 := by omega
      have hsz := hB.size
      clear hm h1 h2 h3 h4 hst hsu hpe hlm hdl hsA hsC he hf
      go_wp2_with fail
      have oa : ∀ p : Over wr, p.w.cell? ⟨b1, o1 + j * 2, none⟩ = some (.int .i64 (X : Int)) := fun p => p.cell s1
      have ob : ∀ p : Over wr, p.w.cell? ⟨b1, o1 + j * 2 + 1, none⟩ = some (.int .i64 (Y : Int)) := fun p => p.cell s2
      refine wp_region_over wr (Below.refl _ _) (by kernel_rfl) (by kernel_rfl) ?_
      repeat (go_big_quiet_step (fail))
      refine wpQuiet_nil ?_
      intro wz hw'
      have hbz := over_below hw'
      clear hw' oa ob w1 w2 s1 s2 gs
      replace hown := book_owns hown (grown_none hbz) (fun r e => by cases e)
      have hBz : Below w.heap.size w wz := below_then hB hbz
      have hsz2 := hBz.size
      replace hle : 0 < X → ∃ b o, ld = some ⟨b, o, none⟩ ∧ wz.cell? ⟨b, o + a', none⟩ = some (.bool (lead.getD a' false)) := fun h => by
        obtain ⟨b, o, e, hc⟩ := hle h
        exact ⟨b, o, e, cell_grown hbz hc⟩
      by_cases hx0 : X = 0
      · have k1 : ¬ (a' : Int) < (e : Int) := by have := HE.out; omega
        have HNE : Hid (countM lead ms (j + 1) = countM lead ms j ++ partC 1 c' Y) := hid (by rw [HS.out]; simp [hx0])
        go_wp2_with fail
        go_loopw [5, 12] (fun v qv wx => ∃ t : Nat, t ≤ Y ∧ qv = .int .i64 ((c' + t : Nat) : Int) ∧ wx.ownsRow w.heap.size 69 2 v (dl + t) (flatC (countM lead ms j ++ partC 1 c' t)) ∧ Below w.heap.size w wx) (fun _ qv _ => f - (intOf qv).toNat)
        case atStart => exact ⟨0, Nat.zero_le _, rfl, by simpa [partC] using hown, hBz⟩
        case round =>
          obtain ⟨t, ht, rfl, hown, hB3⟩ := hrel
          obtain ⟨vb, vd, rfl⟩ := owns_shape hown
          have hs3 := hB3.size
          obtain ⟨q, hq⟩ : ∃ q, c' + t = q := ⟨_, rfl⟩
          simp only [hq]
          have hpt := HP1.out c' t
          rw [hq] at hpt
          have HPT := hid hpt
          have HQ := hid hq
          have hqe : q = c' + t := hq.symm
          have het := HF.out
          clear hpt
          by_cases hq5 : q < f
          · have hq5' : (q : Int) < (f : Int) := by omega
            have ht1 : t + 1 ≤ Y := by omega
            have hown2 := book_owns hown (grown_none (below_alloc wr (.cells #[.int .u8 1, .int .i64 (q : Int)] 69))) (fun r e => by cases e)
            clear hq hqe het
            go_wp2_with (at_builtin; refine wpList_append_own_at _ rfl _ _ 65 rfl w.heap.size 69 i0 (.agg #[.int .u8 0, .int .i64 0]) 2 16 Try.underlying65 hi0 hz0 hz1 hz2 rfl (by decide) _ _ _ rfl hown2 ⟨wr.heap.size, 0, none⟩ 1 1 [.int .u8 1, .int .i64 (q : Int)] rfl rfl (pair_new wr _ _ 69) (by simp [Value.oneCell']) (by unfold maxLen; omega) (by omega) (by simp; omega) ?_; intro v' w5 hown' hgrow hnil hloc; have hb5 : Below w.heap.size wr w5 := (((Below.refl w.heap.size wr).alloc (by omega) _).grown hgrow (by simp; omega) (fun r e => (hown2.lt r e).1)))
            go_roundw
            case rel => exact ⟨t + 1, ht1, by rw [show c' + (t + 1) = q + 1 by have := HQ.out; omega]; go_num, by rw [HPT.out, ← List.append_assoc, flatC_append (countM lead ms j ++ partC 1 c' t)]; exact hown', hB3.trans hb5⟩
            case measure => simp [intOf]; omega
          · have hq5' : ¬ (q : Int) < (f : Int) := by omega
            have htc : t = Y := by omega
            clear hq hqe het
            go_wp2_with fail
            go_roundw
            case rel => exact ⟨j + 1, e, f, by omega, by go_num, rfl, rfl, HSA, HSC, by rw [HNE.out, List.length_append, HDL.out, partC_length, ← htc]; exact hown, by rw [HNE.out, List.length_append, HDL.out, partC_length]; omega, hB3⟩
            case measure => simp [intOf]; omega
      · have hxp : 0 < X := by omega
        obtain ⟨b, o, el, c9⟩ := hle hxp
        subst el
        have g9 := lt_of_cell c9
        cases hl : lead.getD a' false with
        | true =>
          rw [hl] at c9
          have k1 : (a' : Int) < (e : Int) := by have := HE.out; omega
          have k2 : (0 : Int) ≤ (a' : Int) := by omega
          have k3 : (a' : Int) < (nl : Int) := by omega
          have HNE : Hid (countM lead ms (j + 1) = countM lead ms j ++ partC 0 a' X) := hid (by rw [HS.out, hl]; simp [hxp])
          go_wp2_with fail
          go_loopw [5, 11] (fun v qv wx => ∃ t : Nat, t ≤ X ∧ qv = .int .i64 ((a' + t : Nat) : Int) ∧ wx.ownsRow w.heap.size 69 2 v (dl + t) (flatC (countM lead ms j ++ partC 0 a' t)) ∧ Below w.heap.size w wx) (fun _ qv _ => e - (intOf qv).toNat)
          case atStart => exact ⟨0, Nat.zero_le _, rfl, by simpa [partC] using hown, hBz⟩
          case round =>
            obtain ⟨t, ht, rfl, hown, hB3⟩ := hrel
            obtain ⟨vb, vd, rfl⟩ := owns_shape hown
            have hs3 := hB3.size
            obtain ⟨q, hq⟩ : ∃ q, a' + t = q := ⟨_, rfl⟩
            simp only [hq]
            have hpt := HP0.out a' t
            rw [hq] at hpt
            have HPT := hid hpt
            have HQ := hid hq
            have hqe : q = a' + t := hq.symm
            have het := HE.out
            clear hpt
            by_cases hq5 : q < e
            · have hq5' : (q : Int) < (e : Int) := by omega
              have ht1 : t + 1 ≤ X := by omega
              have hown2 := book_owns hown (grown_none (below_alloc wr (.cells #[.int .u8 0, .int .i64 (q : Int)] 69))) (fun r e => by cases e)
              clear hq hqe het
              go_wp2_with (at_builtin; refine wpList_append_own_at _ rfl _ _ 65 rfl w.heap.size 69 i0 (.agg #[.int .u8 0, .int .i64 0]) 2 16 Try.underlying65 hi0 hz0 hz1 hz2 rfl (by decide) _ _ _ rfl hown2 ⟨wr.heap.size, 0, none⟩ 1 1 [.int .u8 0, .int .i64 (q : Int)] rfl rfl (pair_new wr _ _ 69) (by simp [Value.oneCell']) (by unfold maxLen; omega) (by omega) (by simp; omega) ?_; intro v' w5 hown' hgrow hnil hloc; have hb5 : Below w.heap.size wr w5 := (((Below.refl w.heap.size wr).alloc (by omega) _).grown hgrow (by simp; omega) (fun r e => (hown2.lt r e).1)))
              go_roundw
              case rel => exact ⟨t + 1, ht1, by rw [show a' + (t + 1) = q + 1 by have := HQ.out; omega]; go_num, by rw [HPT.out, ← List.append_assoc, flatC_append (countM lead ms j ++ partC 0 a' t)]; exact hown', hB3.trans hb5⟩
              case measure => simp [intOf]; omega
            · have hq5' : ¬ (q : Int) < (e : Int) := by omega
              have htc : t = X := by omega
              clear hq hqe het
              go_wp2_with fail
              go_roundw
              case rel => exact ⟨j + 1, e, f, by omega, by go_num, rfl, rfl, HSA, HSC, by rw [HNE.out, List.length_append, HDL.out, partC_length, ← htc]; exact hown, by rw [HNE.out, List.length_append, HDL.out, partC_length]; omega, hB3⟩
              case measure => simp [intOf]; omega
        | false =>
          by_cases hy0 : Y = 0
          · rw [hl] at c9
            have k4 : ((f : Int) == (c' : Int)) = true := by have := HF.out; simp; omega
            have k1 : (a' : Int) < (e : Int) := by have := HE.out; omega
            have k2 : (0 : Int) ≤ (a' : Int) := by omega
            have k3 : (a' : Int) < (nl : Int) := by omega
            have HNE : Hid (countM lead ms (j + 1) = countM lead ms j ++ partC 0 a' X) := hid (by rw [HS.out]; simp [hxp, hy0])
            clear hy0
            go_wp2_with fail
            go_loopw [5, 11] (fun v qv wx => ∃ t : Nat, t ≤ X ∧ qv = .int .i64 ((a' + t : Nat) : Int) ∧ wx.ownsRow w.heap.size 69 2 v (dl + t) (flatC (countM lead ms j ++ partC 0 a' t)) ∧ Below w.heap.size w wx) (fun _ qv _ => e - (intOf qv).toNat)
            case atStart => exact ⟨0, Nat.zero_le _, rfl, by simpa [partC] using hown, hBz⟩
            case round =>
              obtain ⟨t, ht, rfl, hown, hB3⟩ := hrel
              obtain ⟨vb, vd, rfl⟩ := owns_shape hown
              have hs3 := hB3.size
              obtain ⟨q, hq⟩ : ∃ q, a' + t = q := ⟨_, rfl⟩
              simp only [hq]
              have hpt := HP0.out a' t
              rw [hq] at hpt
              have HPT := hid hpt
              have HQ := hid hq
              have hqe : q = a' + t := hq.symm
              have het := HE.out
              clear hpt
              by_cases hq5 : q < e
              · have hq5' : (q : Int) < (e : Int) := by omega
                have ht1 : t + 1 ≤ X := by omega
                have hown2 := book_owns hown (grown_none (below_alloc wr (.cells #[.int .u8 0, .int .i64 (q : Int)] 69))) (fun r e => by cases e)
                clear hq hqe het
                go_wp2_with (at_builtin; refine wpList_append_own_at _ rfl _ _ 65 rfl w.heap.size 69 i0 (.agg #[.int .u8 0, .int .i64 0]) 2 16 Try.underlying65 hi0 hz0 hz1 hz2 rfl (by decide) _ _ _ rfl hown2 ⟨wr.heap.size, 0, none⟩ 1 1 [.int .u8 0, .int .i64 (q : Int)] rfl rfl (pair_new wr _ _ 69) (by simp [Value.oneCell']) (by unfold maxLen; omega) (by omega) (by simp; omega) ?_; intro v' w5 hown' hgrow hnil hloc; have hb5 : Below w.heap.size wr w5 := (((Below.refl w.heap.size wr).alloc (by omega) _).grown hgrow (by simp; omega) (fun r e => (hown2.lt r e).1)))
                go_roundw
                case rel => exact ⟨t + 1, ht1, by rw [show a' + (t + 1) = q + 1 by have := HQ.out; omega]; go_num, by rw [HPT.out, ← List.append_assoc, flatC_append (countM lead ms j ++ partC 0 a' t)]; exact hown', hB3.trans hb5⟩
                case measure => simp [intOf]; omega
              · have hq5' : ¬ (q : Int) < (e : Int) := by omega
                have htc : t = X := by omega
                clear hq hqe het
                go_wp2_with fail
                go_roundw
                case rel => exact ⟨j + 1, e, f, by omega, by go_num, rfl, rfl, HSA, HSC, by rw [HNE.out, List.length_append, HDL.out, partC_length, ← htc]; exact hown, by rw [HNE.out, List.length_append, HDL.out, partC_length]; omega, hB3⟩
                case measure => simp [intOf]; omega
          · rw [hl] at c9
            have k4 : ((f : Int) == (c' : Int)) = false := by have := HF.out; simp; omega
            have k1 : (a' : Int) < (e : Int) := by have := HE.out; omega
            have k2 : (0 : Int) ≤ (a' : Int) := by omega
            have k3 : (a' : Int) < (nl : Int) := by omega
            have HNE : Hid (countM lead ms (j + 1) = countM lead ms j ++ partC 1 c' Y) := hid (by rw [HS.out, hl]; simp [hy0])
            go_wp2_with fail
            go_loopw [5, 12] (fun v qv wx => ∃ t : Nat, t ≤ Y ∧ qv = .int .i64 ((c' + t : Nat) : Int) ∧ wx.ownsRow w.heap.size 69 2 v (dl + t) (flatC (countM lead ms j ++ partC 1 c' t)) ∧ Below w.heap.size w wx) (fun _ qv _ => f - (intOf qv).toNat)
            case atStart => exact ⟨0, Nat.zero_le _, rfl, by simpa [partC] using hown, hBz⟩
            case round =>
              obtain ⟨t, ht, rfl, hown, hB3⟩ := hrel
              obtain ⟨vb, vd, rfl⟩ := owns_shape hown
              have hs3 := hB3.size
              obtain ⟨q, hq⟩ : ∃ q, c' + t = q := ⟨_, rfl⟩
              simp only [hq]
              have hpt := HP1.out c' t
              rw [hq] at hpt
              have HPT := hid hpt
              have HQ := hid hq
              have hqe : q = c' + t := hq.symm
              have het := HF.out
              clear hpt
              by_cases hq5 : q < f
              · have hq5' : (q : Int) < (f : Int) := by omega
                have ht1 : t + 1 ≤ Y := by omega
                have hown2 := book_owns hown (grown_none (below_alloc wr (.cells #[.int .u8 1, .int .i64 (q : Int)] 69))) (fun r e => by cases e)
                clear hq hqe het
                go_wp2_with (at_builtin; refine wpList_append_own_at _ rfl _ _ 65 rfl w.heap.size 69 i0 (.agg #[.int .u8 0, .int .i64 0]) 2 16 Try.underlying65 hi0 hz0 hz1 hz2 rfl (by decide) _ _ _ rfl hown2 ⟨wr.heap.size, 0, none⟩ 1 1 [.int .u8 1, .int .i64 (q : Int)] rfl rfl (pair_new wr _ _ 69) (by simp [Value.oneCell']) (by unfold maxLen; omega) (by omega) (by simp; omega) ?_; intro v' w5 hown' hgrow hnil hloc; have hb5 : Below w.heap.size wr w5 := (((Below.refl w.heap.size wr).alloc (by omega) _).grown hgrow (by simp; omega) (fun r e => (hown2.lt r e).1)))
                go_roundw
                case rel => exact ⟨t + 1, ht1, by rw [show c' + (t + 1) = q + 1 by have := HQ.out; omega]; go_num, by rw [HPT.out, ← List.append_assoc, flatC_append (countM lead ms j ++ partC 1 c' t)]; exact hown', hB3.trans hb5⟩
                case measure => simp [intOf]; omega
              · have hq5' : ¬ (q : Int) < (f : Int) := by omega
                have htc : t = Y := by omega
                clear hq hqe het
                go_wp2_with fail
                go_roundw
                case rel => exact ⟨j + 1, e, f, by omega, by go_num, rfl, rfl, HSA, HSC, by rw [HNE.out, List.length_append, HDL.out, partC_length, ← htc]; exact hown, by rw [HNE.out, List.length_append, HDL.out, partC_length]; omega, hB3⟩
                case measure => simp [intOf]; omega
    · have hjn : n = j := by omega
      subst hjn
      have hin := pieces_of_owns69 hown
      go_wp2_with fail
      go_ret
      exact ⟨va, vc, rfl, hin, hcl2, hB⟩

end Go.Proofs.Ytohahlnhbppnhaa
