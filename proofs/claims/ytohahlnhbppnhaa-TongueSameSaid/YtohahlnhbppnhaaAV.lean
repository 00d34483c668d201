/- Tongue, the laws: a text and itself; a text and nothing. -/
import Derived.Test.YtohahlnhbppnhaaAU
import Derived.Deep.CutRange
namespace Go.Proofs.Ytohahlnhbppnhaa
open Go.RowKit
set_option linter.unusedSimpArgs false
set_option linter.unusedVariables false

set_option maxRecDepth 100000 in
theorem step_neq (x1 x2 y1 y2 : Int) (w : World) : (binOp .neq 36 (.agg #[.int .i64 x1, .int .i64 x2]) (.agg #[.int .i64 y1, .int .i64 y2])).run Try.prog w = .ok (.bool (!decide (x1 = y1 ∧ x2 = y2))) w := by
  have h := struct2_eql 36 (.inl rfl) x1 x2 y1 y2 w
  rw [run_eql_struct] at h
  rw [run_neq_struct]
  cases hr : (Op.equalIn 10000 36 (.agg #[.int .i64 x1, .int .i64 x2]) (.agg #[.int .i64 y1, .int .i64 y2])).run Try.prog w with
  | ok v w' =>
    rw [hr] at h
    simp only [Result.andThen, Result.ok.injEq, Value.bool.injEq] at h ⊢
    obtain ⟨rfl, rfl⟩ := h
    exact ⟨rfl, rfl⟩
  | halt x w' => rw [hr] at h; cases h

theorem steps_same {w : World} {a : Option Addr} {n x y : Nat} (h : StepsAt w a (List.replicate n (x, y))) (i : Nat) (hi : i < n) : ∃ b off, a = some ⟨b, off, none⟩ ∧ w.cell? ⟨b, off + i * 2, none⟩ = some (.int .i64 (x : Int)) ∧ w.cell? ⟨b, off + i * 2 + 1, none⟩ = some (.int .i64 (y : Int)) := by
  obtain ⟨b, off, ea, c0, c1⟩ := h i (by simp; exact hi)
  have e : (List.replicate n (x, y)).getD i (0, 0) = (x, y) := by rw [List.getD_eq_getElem?_getD, List.getElem?_replicate, if_pos hi]; rfl
  rw [e] at c0 c1
  exact ⟨b, off, ea, c0, c1⟩

theorem fault_self {L : List Sen} (h : faultM L [] = 0) : faultM L L = 0 := by
  obtain ⟨l1, -, v1, -⟩ := fault_zero h
  unfold faultM
  rw [l1, v1]
  rfl

theorem alone_best {L : List Sen} (h : faultM L [] = 0) : restM L [] 0 0 = (aloneC L : Nat) ∧ bestM L [] 0 0 = List.replicate L.length (1, 0) := by
  obtain ⟨l1, -, v1, -⟩ := fault_zero h
  have hf := fine_of L l1 v1
  have hnd : ∀ s ∈ L, s.marks.Nodup := fun s hs => by
    unfold valT at v1
    rw [List.all_eq_true] at v1
    have := v1 s hs
    unfold valS at this
    rw [Bool.and_eq_true] at this
    exact marks_nodup this.1
  have := alone_rest hf.1.2.2 hnd L.length 0 rfl (Nat.zero_le _)
  simpa using this

theorem aloneC_le (L : List Sen) (h : ∀ s ∈ L, s.marks.length ≤ 15) : ∀ j, j ≤ L.length → aloneC (L.take j) ≤ 33 * j := by
  intro j
  induction j with
  | zero => intro _; simp [aloneC]
  | succ j ih =>
    intro hj
    rw [aloneC_take L j (by omega)]
    have h1 := ih (by omega)
    have h2 := h (L.getD j default) (by rw [List.getD_eq_getElem?_getD, List.getElem?_eq_getElem (by omega)]; exact List.getElem_mem _)
    omega

set_option maxRecDepth 100000 in
set_option maxHeartbeats 2000000 in
theorem same_any (L : List Sen) (n nc : Nat) (la : Option Addr) (w : World) (hL : L.length = n) (hn : n ≤ 9223372036854775807) (hS : TextAt w la L) :
    Calls Try.prog 12 #[.slice la n nc] w fun e w' => e = .returned (.bool true) ∧ Below w.heap.size w w' := by
  have hr := ready_any L [] n 0 nc 0 la none w hL rfl hn (by omega) hS (fun i hi => by simp at hi)
  have hwk := fun W => wakes_any W
  obtain ⟨r, hre⟩ : ∃ r, readyM L [] = r := ⟨_, rfl⟩
  rw [hre] at hr
  cases r
  · clear hS hL hre
    go_enter Try.func12, Try.ntmps12
    go_wp2_with (first | (go_at_call 48; refine hr.mono ?_; rintro e w1 ⟨rfl, hb⟩) | (go_at_call 18; refine (hwk _).mono ?_; rintro e w2 ⟨rfl, hb2⟩))
    go_ret
    exact ⟨rfl, below_then hb hb2⟩
  unfold readyM at hre
  simp only [Bool.and_eq_true, decide_eq_true_eq] at hre
  obtain ⟨hfe, hf⟩ := hre
  obtain ⟨k1, -, k3, -⟩ := few_parts hfe
  have sL := fine_small ⟨k1, k3⟩
  have sN : Small ([] : List Sen) := ⟨by simp, fun s hs => by cases hs⟩
  have hff := fault_self hf
  obtain ⟨hrest, hbest⟩ := alone_best hf
  have hTL := fun W hS => text_any L n nc la W hL (by omega) (fun s hs => by have := k3 s hs; omega) hS
  have hM1 : ∀ a ac b bc W, TextAt W a L → TextAt W b L → n ≤ ac → n ≤ bc → Calls Try.prog 19 #[.slice a n ac, .slice b n bc] W fun e w' => ∃ sa sc, e = .returned (.tuple #[.slice sa n sc, .int .i64 0, .int .i64 0]) ∧ StepsAt w' sa (List.replicate n (1, 1)) ∧ Below W.heap.size W w' := fun a ac b bc W hA hB h1 h2 => by
    have h := match_right L L n n hL hL sL sL hff a b ac bc W hA hB h1 h2
    rw [rest_same L L.length 0 rfl (Nat.zero_le _), best_same L L.length 0 rfl (Nat.zero_le _)] at h
    simp only [List.length_replicate, hL] at h
    exact h
  have hM2 : ∀ a ac W, TextAt W a L → n ≤ ac → Calls Try.prog 19 #[.slice a n ac, .slice none 0 0] W fun e w' => ∃ sa sc, e = .returned (.tuple #[.slice sa n sc, .int .i64 (aloneC L : Nat), .int .i64 0]) ∧ StepsAt w' sa (List.replicate n (1, 0)) ∧ Below W.heap.size W w' := fun a ac W hA h1 => by
    have h := match_right L [] n 0 hL rfl sL sN hf a none ac 0 W hA (fun i hi => by simp at hi) h1 (Nat.le_refl _)
    rw [hrest, hbest] at h
    simp only [List.length_replicate, hL] at h
    exact h
  have hON := fun W => stepOnes_any n W (by omega)
  have hD : ∀ a ac b bc sa sc W, TextAt W a L → TextAt W b L → n ≤ ac → n ≤ bc → PairsAt W sa (onesN n) → Calls Try.prog 25 #[.slice a n ac, .slice b n bc, .slice sa n sc] W fun e w' => ∃ da dc, e = .returned (.tuple #[.slice da 0 dc, .int .i64 0]) ∧ Below W.heap.size W w' := fun a ac b bc sa sc W hA hB h1 h2 hP => by
    refine (diffsOf_any L L n ac n bc a b W hL hL sL sL hA hB h1 h2 (onesN n) n sc sa (by simp [onesN]) (by omega) hP).mono ?_
    rintro e w' ⟨hb, ⟨hne, -⟩ | ⟨-, hmm, -⟩ | ⟨-, ms, a, cap, hmm, rfl, -⟩⟩
    · exact (hne hff).elim
    · obtain ⟨ms, h1, -⟩ := ones_match L
      rw [hL] at h1 hmm
      rw [h1] at hmm
      cases hmm
    · obtain ⟨ms', h1, h2⟩ := ones_match L
      rw [hL] at h1 hmm
      rw [h1] at hmm
      cases hmm
      rw [h2]
      exact ⟨a, cap, rfl, hb⟩
  have HAL : Hid (∀ j, j ≤ n → aloneC (L.take j) ≤ 33 * j) := hid (fun j hj => aloneC_le L k3 j (by omega))
  have HAT : Hid (∀ j, j < n → aloneC (L.take (j + 1)) = aloneC (L.take j) + (3 + 2 * (L.getD j default).marks.length)) := hid (fun j hj => aloneC_take L j (by omega))
  have HFI : Hid (aloneC L = aloneC (L.take n)) := hid (by rw [← hL, List.take_length])
  have HK3 : Hid (∀ j, j < n → (L.getD j default).marks.length ≤ 15) := hid (fun j hj => k3 _ (by rw [List.getD_eq_getElem?_getD, List.getElem?_eq_getElem (by omega)]; exact List.getElem_mem _))
  have hn22 : n ≤ 22 := by omega
  have HLL := hid hL
  generalize aloneC L = z2 at hM2 HFI
  have hb : Below w.heap.size w w := Below.refl _ _
  have hSx := hS
  have n11 : ∀ W : World, (binOp .neq 36 (.agg #[.int .i64 1, .int .i64 1]) (.agg #[.int .i64 1, .int .i64 1])).run Try.prog W = .ok (.bool false) W := fun W => step_neq 1 1 1 1 W
  have n10 : ∀ W : World, (binOp .neq 36 (.agg #[.int .i64 1, .int .i64 0]) (.agg #[.int .i64 1, .int .i64 0])).run Try.prog W = .ok (.bool false) W := fun W => step_neq 1 0 1 0 W
  clear hrest hbest hff hfe hf k1 k3 sL sN hL
  go_enter Try.func12, Try.ntmps12
  go_upto_region 8 with (first | (go_at_call 48; refine hr.mono ?_; rintro e wq ⟨rfl, hq⟩; replace hSx := hSx.grown hq; replace hb := below_then hb hq; (try replace hA := hA.grown hq); (try replace hB := hB.grown hq); (try replace hP := hP.grown hq); (try replace hSA := hSA.grown hq); (try replace hSB := hSB.grown hq); clear hq) | (go_at_call 20; refine (hTL _ hSx).mono ?_; first | (have hZ := hA; clear hZ; rintro e wq ⟨b, bc, rfl, hB, hBc, hq⟩; replace hA := hA.grown hq; replace hSx := hSx.grown hq; replace hb := below_then hb hq; (try replace hSA := hSA.grown hq); clear hq) | (rintro e wq ⟨a, ac, rfl, hA, hAc, hq⟩; replace hSx := hSx.grown hq; replace hb := below_then hb hq; (try replace hSA := hSA.grown hq); clear hq)) | (go_at_call 19; refine (hM1 a ac b bc _ hA hB hAc hBc).mono ?_; rintro e wq ⟨s1, c1, rfl, hSA, hq⟩; clear hA hB hM1; replace hSx := hSx.grown hq; replace hb := below_then hb hq; clear hq) | (go_at_call 19; refine (hM2 a ac _ hA hAc).mono ?_; rintro e wq ⟨s2, c2, rfl, hSB, hq⟩; clear hA hM2; replace hSA := hSA.grown hq; replace hSx := hSx.grown hq; replace hb := below_then hb hq; clear hq) | (go_at_call 45; refine (hON _).mono ?_; rintro e wq ⟨so, co, rfl, hP, hq⟩; replace hA := hA.grown hq; replace hB := hB.grown hq; replace hSA := hSA.grown hq; replace hSx := hSx.grown hq; replace hb := below_then hb hq; clear hq) | (go_at_call 25; refine (hD a ac b bc so co _ hA hB hAc hBc hP).mono ?_; rintro e wq ⟨da, dc, rfl, hq⟩; clear hA hB hP hD; replace hSA := hSA.grown hq; replace hSx := hSx.grown hq; replace hb := below_then hb hq; clear hq))
  go_wp2_with fail
  have HSB := hid hSB
  clear hTL hr hON
  go_loopw [11, 12] (fun v i wr => ∃ j s : Nat, j ≤ n ∧ i = .int .i64 j ∧ v = .int .i64 s ∧ Hid (s = aloneC (L.take j)) ∧ Below wq.heap.size wq wr) (fun _ i _ => n - (intOf i).toNat)
  case atStart => exact ⟨0, 0, Nat.zero_le _, rfl, rfl, hid rfl, Below.refl _ _⟩
  case round =>
    obtain ⟨j, s, hj, rfl, rfl, HS, hB⟩ := hrel
    have hs : s ≤ 33 * j := by rw [HS.out]; exact HAL.out j hj
    by_cases hlt : j < n
    · have hlt' : (j : Int) < n := by omega
      obtain ⟨b1, o1, e1, c0, c1'⟩ := steps_same (hSA.grown hB) j hlt
      obtain ⟨b2, o2, e2, d0, d1⟩ := steps_same (hSB.grown hB) j hlt
      obtain ⟨b3, o3, ma, mc, e3, f0, f1, -⟩ := (hSx.grown hB) j (by rw [HLL.out]; exact hlt)
      subst e1 e2 e3
      have c0 : wr.cell? ⟨b1, o1 + j * 2, none⟩ = some (.int .i64 1) := c0
      have c1 : wr.cell? ⟨b1, o1 + j * 2 + 1, none⟩ = some (.int .i64 1) := c1'
      have d0 : wr.cell? ⟨b2, o2 + j * 2, none⟩ = some (.int .i64 1) := d0
      have d1 : wr.cell? ⟨b2, o2 + j * 2 + 1, none⟩ = some (.int .i64 0) := d1
      clear c1'
      have g1 := lt_of_cell c0
      have g2 := lt_of_cell d0
      have g3 := lt_of_cell f0
      have hst := HAT.out j hlt
      have hmk := HK3.out j hlt
      generalize (L.getD j default).marks.length = k at f0 hst hmk
      have HST := hid hst
      clear hst
      go_wp2_with fail
      go_roundw
      case rel => exact ⟨j + 1, s + (3 + 2 * k), by omega, by go_num, by go_num, hid (by rw [HST.out, HS.out]), hB⟩
      case measure => simp [intOf]; omega
    · have hjn : j = n := by omega
      subst hjn
      have hz : s = z2 := by rw [HFI.out, HS.out]
      subst hz
      replace hb := hb.trans (hB.mono hb.size)
      go_wp2_with (go_at_call 18; refine (hwk _).mono ?_; rintro e wq ⟨rfl, hq⟩; replace hb := below_then hb hq; clear hq)
      go_ret
      exact ⟨rfl, hb⟩

end Go.Proofs.Ytohahlnhbppnhaa
