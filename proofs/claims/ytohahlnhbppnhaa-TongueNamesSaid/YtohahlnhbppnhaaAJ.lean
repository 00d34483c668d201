/- Tongue, the laws: are two texts right; both texts exchanged. -/
import Derived.Test.YtohahlnhbppnhaaAI
import Derived.Test.YtohahlnhbppnhaaAC
namespace Go.Proofs.Ytohahlnhbppnhaa
open Go.RowKit
set_option linter.unusedSimpArgs false
set_option linter.unusedVariables false

def readyM (L R : List Sen) : Bool := fewM L R && decide (faultM L R = 0)

theorem few_parts {L R : List Sen} (h : fewM L R = true) : L.length ≤ 22 ∧ R.length ≤ 22 ∧ (∀ s ∈ L, s.marks.length ≤ 15) ∧ ∀ s ∈ R, s.marks.length ≤ 15 := by
  unfold fewM at h
  simp only [Bool.and_eq_true, List.all_eq_true, fewS, decide_eq_true_eq] at h
  exact ⟨h.2.2.1, h.2.2.2, h.1, h.2.1⟩

set_option maxHeartbeats 1000000 in
theorem ready_any (L R : List Sen) (n m nc mc : Nat) (la ra : Option Addr) (w : World) (hL : L.length = n) (hR : R.length = m) (hn : n ≤ 9223372036854775807) (hm : m ≤ 9223372036854775807) (hS : TextAt w la L) (hT : TextAt w ra R) :
    Calls Try.prog 48 #[.slice la n nc, .slice ra m mc] w fun e w' => e = .returned (.bool (readyM L R)) ∧ Below w.heap.size w w' := by
  have hf := few_any L R n m nc mc la ra w hL hR hn hm hS hT
  obtain ⟨f, hfe⟩ : ∃ f, fewM L R = f := ⟨_, rfl⟩
  rw [hfe] at hf
  have HM : Hid (readyM L R = (f && decide (faultM L R = 0))) := hid (by unfold readyM; rw [hfe])
  cases f
  · clear hS hT hL hR hfe
    go_enter Try.func48, Try.ntmps48
    go_wp2_with (go_at_call 16; refine hf.mono ?_; rintro e w' ⟨rfl, rfl⟩)
    go_ret
    exact ⟨by rw [HM.out]; rfl, Below.refl _ _⟩
  · obtain ⟨k1, k2, k3, k4⟩ := few_parts hfe
    have hr := refFault_any L R n m nc mc la ra w hL hR (by omega) (by omega) (fun s hs => by have := k3 s hs; omega) (fun s hs => by have := k4 s hs; omega) hS hT
    clear k1 k2 k3 k4 hS hT hL hR hfe
    generalize faultM L R = z at hr HM
    by_cases hz : z = 0
    · subst hz
      go_enter Try.func48, Try.ntmps48
      go_wp2_with (first | (go_at_call 16; refine hf.mono ?_; rintro e w' ⟨rfl, rfl⟩) | (go_at_call 51; refine hr.mono ?_; rintro e w2 ⟨rfl, hb2⟩))
      go_ret
      exact ⟨by rw [HM.out]; rfl, hb2⟩
    · have hz' : (z == 0) = false := by simpa using hz
      go_enter Try.func48, Try.ntmps48
      go_wp2_with (first | (go_at_call 16; refine hf.mono ?_; rintro e w' ⟨rfl, rfl⟩) | (go_at_call 51; refine hr.mono ?_; rintro e w2 ⟨rfl, hb2⟩))
      go_ret
      exact ⟨by rw [HM.out]; simp [hz], hb2⟩

theorem minL_least {L : List Int} : ∀ x ∈ L, minL L ≤ x := by
  have hf : ∀ (L : List Int) (x : Int), L.foldl min x ≤ x ∧ ∀ y ∈ L, L.foldl min x ≤ y := by
    intro L
    induction L with
    | nil => exact fun x => ⟨Int.le_refl _, fun y hy => by cases hy⟩
    | cons z L ih =>
      intro x
      rw [List.foldl_cons]
      have h := ih (min x z)
      refine ⟨Int.le_trans h.1 (Int.min_le_left _ _), fun y hy => ?_⟩
      rcases List.mem_cons.1 hy with rfl | hy
      · exact Int.le_trans h.1 (Int.min_le_right _ _)
      · exact h.2 y hy
  cases L with
  | nil => intro x hx; cases hx
  | cons x L =>
    intro y hy
    rcases List.mem_cons.1 hy with rfl | hy
    · exact (hf L _).1
    · exact (hf L x).2 y hy

theorem minL_same {L M : List Int} (h : ∀ x, x ∈ L ↔ x ∈ M) : minL L = minL M := by
  by_cases hL : L = []
  · subst hL
    have hM : M = [] := List.eq_nil_iff_forall_not_mem.2 (fun x hx => by have := (h x).2 hx; cases this)
    rw [hM]
  · have h1 := minL_mem hL
    have hM : M ≠ [] := fun e => by rw [e] at h; have := (h _).1 h1; cases this
    have h2 := minL_mem hM
    exact Int.le_antisymm (minL_least _ ((h _).2 h2)) (minL_least _ ((h _).1 h1))

theorem apartM_comm (T U : List Sen) : apartM T U = apartM U T := by
  unfold apartM apartK
  congr 1
  refine List.map_congr_left fun i _ => ?_
  rw [Nat.xor_comm]

theorem priceAt_turn (L R : List Sen) (i k x y : Nat) : priceAt L R i k (x, y) = priceAt R L k i (y, x) := by
  unfold priceAt priceM sidesM
  simp only
  rw [apartM_comm, Nat.add_comm (if x = 0 then 1 else 0), Nat.add_comm (if x = 2 then 1 else 0)]

theorem moves_turn {nl nr i k : Nat} {x y : Nat} (h : (x, y) ∈ movesM nl nr i k) : (y, x) ∈ movesM nr nl k i := by
  unfold movesM kinds at h ⊢
  simp only [List.mem_filter, List.mem_cons, List.not_mem_nil, or_false, Prod.mk.injEq, fitsM, decide_eq_true_eq, Bool.and_eq_true] at h ⊢
  omega

theorem restF_turn (L R : List Sen) (n : Nat) : ∀ i k, restF L R n i k = restF R L n k i := by
  induction n with
  | zero => intro i k; rfl
  | succ n ih =>
    intro i k
    unfold restF
    refine minL_same fun v => ?_
    simp only [List.mem_map]
    constructor
    · rintro ⟨⟨x, y⟩, hs, rfl⟩
      exact ⟨(y, x), moves_turn hs, by rw [ih, priceAt_turn]⟩
    · rintro ⟨⟨x, y⟩, hs, rfl⟩
      exact ⟨(y, x), moves_turn hs, by rw [ih, priceAt_turn]⟩

theorem restM_turn (L R : List Sen) (i k : Nat) : restM L R i k = restM R L k i := by
  unfold restM
  rw [Nat.add_comm, restF_turn]

theorem faultM_turn (L R : List Sen) : faultM L R = faultM R L := by
  unfold faultM
  rw [Bool.and_comm (limT L), Bool.and_comm (valT L)]

theorem fine_small {T : List Sen} (h : T.length ≤ 22 ∧ ∀ s ∈ T, s.marks.length ≤ 15) : Small T := ⟨by omega, fun s hs => by have := h.2 s hs; omega⟩

/-- The best match of right texts, where they lie. -/
theorem match_right (L R : List Sen) (n m : Nat) (hL : L.length = n) (hR : R.length = m) (sL : Small L) (sR : Small R) (hf : faultM L R = 0) (a b : Option Addr) (ac bc : Nat) (W : World) (hA : TextAt W a L) (hB : TextAt W b R) (hac : n ≤ ac) (hbc : m ≤ bc) :
    Calls Try.prog 19 #[.slice a n ac, .slice b m bc] W fun e w' => ∃ sa sc, e = .returned (.tuple #[.slice sa (bestM L R 0 0).length sc, .int .i64 (restM L R 0 0), .int .i64 0]) ∧ StepsAt w' sa (bestM L R 0 0) ∧ Below W.heap.size W w' :=
  (match_any L R n ac m bc a b W hL hR sL sR hA hB hac hbc).mono fun e w' h => by
    obtain ⟨hb, ⟨hne, -⟩ | ⟨-, sa, sc, rfl, hs⟩⟩ := h
    · exact (hne hf).elim
    · exact ⟨sa, sc, rfl, hs, hb⟩

set_option maxRecDepth 100000 in
set_option maxHeartbeats 4000000 in
theorem turned_any (L R : List Sen) (n m nc mc : Nat) (la ra : Option Addr) (w : World) (hL : L.length = n) (hR : R.length = m) (hn : n ≤ 9223372036854775807) (hm : m ≤ 9223372036854775807) (hS : TextAt w la L) (hT : TextAt w ra R) :
    Calls Try.prog 11 #[.slice la n nc, .slice ra m mc] w fun e w' => e = .returned (.bool true) ∧ Below w.heap.size w w' := by
  have hr := ready_any L R n m nc mc la ra w hL hR hn hm hS hT
  have hwk := fun W => wakes_any W
  obtain ⟨r, hre⟩ : ∃ r, readyM L R = r := ⟨_, rfl⟩
  rw [hre] at hr
  cases r
  · clear hS hT hL hR hre
    go_enter Try.func11, Try.ntmps11
    go_wp2_with (first | (go_at_call 48; refine hr.mono ?_; rintro e w1 ⟨rfl, hb⟩) | (go_at_call 18; refine (hwk _).mono ?_; rintro e w2 ⟨rfl, hb2⟩))
    go_ret
    exact ⟨rfl, below_then hb hb2⟩
  · have hre' := hre
    unfold readyM at hre'
    simp only [Bool.and_eq_true, decide_eq_true_eq] at hre'
    obtain ⟨hfe, hf⟩ := hre'
    obtain ⟨k1, k2, k3, k4⟩ := few_parts hfe
    have sL := fine_small ⟨k1, k3⟩
    have sR := fine_small ⟨k2, k4⟩
    have hTL := fun W hb => text_any L n nc la W hL (by omega) (fun s hs => by have := k3 s hs; omega) (hS.grown (w' := W) hb)
    have hTR := fun W hb => text_any R m mc ra W hR (by omega) (fun s hs => by have := k4 s hs; omega) (hT.grown (w' := W) hb)
    have hM1 := fun a ac b bc W => match_right L R n m hL hR sL sR hf a b ac bc W
    have hM2 := fun b bc a ac W => match_right R L m n hR hL sR sL (by rw [faultM_turn]; exact hf) b a bc ac W
    rw [restM_turn R L] at hM2
    generalize restM L R 0 0 = z at hM1 hM2
    generalize (bestM L R 0 0).length = k5 at hM1
    clear hS hT hre hfe hf k1 k2 k3 k4 sL sR
    go_enter Try.func11, Try.ntmps11
    go_wp2_with (first | (go_at_call 48; refine hr.mono ?_; rintro e w1 ⟨rfl, hb⟩) | (go_at_call_has 20 la; refine (hTL _ hb).mono ?_; rintro e wa ⟨a, ac, rfl, hA, hAc, hbn⟩; replace hb := below_then hb hbn; (try replace hB := hB.grown hbn); clear hbn) | (go_at_call_has 20 ra; refine (hTR _ hb).mono ?_; rintro e wb ⟨b, bc, rfl, hB, hBc, hbn⟩; replace hb := below_then hb hbn; (try replace hA := hA.grown hbn); clear hbn) | (go_at_call 19; first | (refine (hM1 a ac b bc _ hA hB hAc hBc).mono ?_; rintro e wm ⟨sa, sc, rfl, -, hbn⟩; replace hb := below_then hb hbn; clear hbn hA hB hM1) | (refine (hM2 b bc a ac _ hB hA hBc hAc).mono ?_; rintro e wm ⟨sa2, sc2, rfl, -, hbn⟩; replace hb := below_then hb hbn; clear hbn hA hB)) | (go_at_call 18; refine (hwk _).mono ?_; rintro e w2 ⟨rfl, hb2⟩))
    go_ret
    exact ⟨rfl, below_then hb hb2⟩

end Go.Proofs.Ytohahlnhbppnhaa
