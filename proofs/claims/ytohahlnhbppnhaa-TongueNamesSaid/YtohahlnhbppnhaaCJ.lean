/- Tongue: the table of halves, asked for; the question whether a table proves a cost. -/
import Derived.Test.YtohahlnhbppnhaaCI
import Derived.Test.YtohahlnhbppnhaaCF
import Derived.Test.YtohahlnhbppnhaaS
namespace Go.Proofs.Ytohahlnhbppnhaa
open Go.RowKit
set_option linter.unusedSimpArgs false
set_option linter.unusedVariables false

def ProofPost (L R : List Sen) (w : World) (e : Ending) (w' : World) : Prop :=
  Below w.heap.size w w' ∧ ((faultM L R ≠ 0 ∧ e = .returned (.tuple #[.slice none 0 0, .int .i64 (faultM L R)])) ∨
    (faultM L R = 0 ∧ ∃ B a c g, w.heap.size ≤ B ∧ e = .returned (.tuple #[.slice a (L.length + 1) c, .int .i64 0]) ∧ GridG w' B (.slice a (L.length + 1) c) (L.length + 1) (R.length + 1) (halfM L R) g))

set_option maxRecDepth 100000 in
set_option maxHeartbeats 2000000 in
theorem proof_any (L R : List Sen) (nl cl nr cr : Nat) (la ra : Option Addr) (w : World) (hL : L.length = nl) (hR : R.length = nr) (sL : Small L) (sR : Small R) (hS : TextAt w la L) (hT : TextAt w ra R) (hl : nl ≤ 20) (hr : nr ≤ 20) : Calls Try.prog 31 #[.slice la nl cl, .slice ra nr cr] w (ProofPost L R w) := by
  have hp := pairOf_any L R nl cl nr cr la ra w hL hR sL sR hS hT
  unfold ProofPost
  rw [hL, hR]
  obtain ⟨z, hz⟩ : ∃ z, faultM L R = z := ⟨_, rfl⟩
  have HZ := hid hz
  by_cases h0 : z = 0
  · subst h0
    obtain ⟨l1, l2, v1, v2⟩ := fault_zero hz
    have fL := (fine_of L l1 v1).1
    have fR := (fine_of R l2 v2).1
    clear l1 l2 v1 v2
    have hhalf : ∀ W b b0 b2, Below w.heap.size w W → ChargesAt W b b0 b2 → Calls Try.prog 64 #[.agg #[.slice la nl cl, .int .u8 0, .int .i64 0, .slice ra nr cr, .int .u8 1, .int .i64 0, .slice (some ⟨b, 0, none⟩) 3 3]] W fun e w' => ∃ a c g, e = .returned (.slice a (nl + 1) c) ∧ GridG w' W.heap.size (.slice a (nl + 1) c) (nl + 1) (nr + 1) (halfM L R) g ∧ Below W.heap.size W w' := fun W b b0 b2 hW hC => halves_any L R nl cl nr cr b b0 b2 la ra W hL hR hl hr fL fR (hS.grown hW) (hT.grown hW) hC
    generalize halfM L R = HM at hhalf ⊢
    clear hL hR sL sR hS hT fL fR hl hr
    go_enter Try.func31, Try.ntmps31
    go_wp2_with (first | (go_at_call 52; refine hp.mono ?_; clear hp; rintro e w1 ⟨hb1, ⟨hne, -⟩ | ⟨-, b, b0, b2, rfl, hch⟩⟩; (exact (hne hz).elim); clear hz) | (go_at_call 64; refine (hhalf _ b b0 b2 (hb1.alloc hb1.size _) (hch.grown (below_alloc _ _))).mono ?_; rintro e w2 ⟨sa, sc, g, rfl, hst, hb2⟩))
    refine bodyPost_ret (v := .tuple #[.slice sa (nl + 1) sc, .int .i64 0]) (by simp [results, Try.f31, go_sem]) rfl ?_
    exact ⟨(hb1.alloc hb1.size _).trans (hb2.mono (by have := hb1.size; simp; omega)), .inr ⟨HZ.out, _, sa, sc, g, by have := hb1.size; simp; omega, rfl, hst⟩⟩
  · have h0' : ((z : Int) != 0) = true := by simp [h0]
    clear hL hR sL sR hS hT
    go_enter Try.func31, Try.ntmps31
    go_wp2_with (first | (go_at_call 52; refine hp.mono ?_; clear hp; rintro e w1 ⟨hb1, ⟨-, rfl⟩ | ⟨hne, -⟩⟩; rotate_left 1; (exact (h0 (hz.symm.trans hne)).elim); rw [hz]; clear hz))
    refine bodyPost_ret (v := .tuple #[.slice none 0 0, .int .i64 z]) (by simp [results, Try.f31, go_sem]) rfl ?_
    exact ⟨hb1.alloc hb1.size _, .inl ⟨by rw [HZ.out]; exact h0, by rw [HZ.out]⟩⟩

def proveM (L R : List Sen) (T : List (List Int)) (cost : Int) : Bool := decide (faultM L R = 0) && (coversM (L.length + 1) (R.length + 1) T && provesB L R (gridF T) L.length R.length cost)

set_option maxRecDepth 100000 in
set_option maxHeartbeats 2000000 in
theorem proveCost_any (L R : List Sen) (T : List (List Int)) (nl cl nr cr t tc : Nat) (cost : Int) (la ra ta : Option Addr) (w : World) (hL : L.length = nl) (hR : R.length = nr) (sL : Small L) (sR : Small R) (hcl : nl ≤ cl) (hcr : nr ≤ cr) (hS : TextAt w la L) (hT : TextAt w ra R)
    (hTl : T.length = t) (ht : t ≤ 1000) (hk : ∀ r ∈ T, r.length ≤ 1000) (hG : GridAt w ta T) : Calls Try.prog 32 #[.slice la nl cl, .slice ra nr cr, .int .i64 cost, .slice ta t tc] w fun e w' => e = .returned (.bool (proveM L R T cost)) ∧ Below w.heap.size w w' := by
  have hp := pairOf_any L R nl cl nr cr la ra w hL hR sL sR hS hT
  unfold proveM
  rw [hL, hR]
  obtain ⟨z, hz⟩ : ∃ z, faultM L R = z := ⟨_, rfl⟩
  rw [hz]
  by_cases h0 : z = 0
  · subst h0
    obtain ⟨l1, l2, v1, v2⟩ := fault_zero hz
    have fL := (fine_of L l1 v1).1
    have fR := (fine_of R l2 v2).1
    clear l1 l2 v1 v2
    have hnl : nl ≤ 1000 := by rw [← hL]; exact fL.1
    have hnr : nr ≤ 1000 := by rw [← hR]; exact fR.1
    have hcov : ∀ W b, Below w.heap.size w W → Calls Try.prog 65 #[.agg #[.slice la nl cl, .int .u8 0, .int .i64 0, .slice ra nr cr, .int .u8 1, .int .i64 0, .slice (some ⟨b, 0, none⟩) 3 3], .slice ta t tc] W fun e w' => e = .returned (.bool (coversM (nl + 1) (nr + 1) T)) ∧ Below W.heap.size W w' := fun W b hW => covers_any T nl cl nr cr b t tc la ra ta W hnl hnr hTl ht hk (hG.grown hW)
    by_cases hc : coversM (nl + 1) (nr + 1) T = true
    · have hpr : ∀ W b b0 b2, Below w.heap.size w W → ChargesAt W b b0 b2 → Calls Try.prog 66 #[.agg #[.slice la nl cl, .int .u8 0, .int .i64 0, .slice ra nr cr, .int .u8 1, .int .i64 0, .slice (some ⟨b, 0, none⟩) 3 3], .slice ta t tc, .int .i64 cost] W fun e w' => e = .returned (.bool (provesB L R (gridF T) nl nr cost)) ∧ Below W.heap.size W w' := fun W b b0 b2 hW hC => proves_any L R T nl cl nr cr b b0 b2 t tc cost la ra ta W hL hR fL fR hcl hcr (hS.grown hW) (hT.grown hW) hC hTl hc (hG.grown hW)
      rw [hc] at hcov ⊢
      rw [decide_eq_true rfl, Bool.true_and, Bool.true_and]
      generalize provesB L R (gridF T) nl nr cost = v at hpr ⊢
      clear hL hR sL sR hS hT fL fR hc hTl ht hk hG hnl hnr
      go_enter Try.func32, Try.ntmps32
      go_wp2_with (first | (go_at_call 52; refine hp.mono ?_; clear hp; rintro e w1 ⟨hb1, ⟨hne, -⟩ | ⟨-, b, b0, b2, rfl, hch⟩⟩; (exact (hne hz).elim); clear hz) | (go_at_call 65; refine (hcov _ b (hb1.alloc hb1.size _)).mono ?_; rintro e w2 ⟨rfl, hb2⟩; have y0 : w2.cell? ⟨w1.heap.size, 0, none⟩ = some (.slice la nl cl) := cell_grown hb2 (by simp [go_sem]); have y1 : w2.cell? ⟨w1.heap.size, 1, none⟩ = some (.int .u8 0) := cell_grown hb2 (by simp [go_sem]); have y2 : w2.cell? ⟨w1.heap.size, 2, none⟩ = some (.int .i64 0) := cell_grown hb2 (by simp [go_sem]); have y3 : w2.cell? ⟨w1.heap.size, 3, none⟩ = some (.slice ra nr cr) := cell_grown hb2 (by simp [go_sem]); have y4 : w2.cell? ⟨w1.heap.size, 4, none⟩ = some (.int .u8 1) := cell_grown hb2 (by simp [go_sem]); have y5 : w2.cell? ⟨w1.heap.size, 5, none⟩ = some (.int .i64 0) := cell_grown hb2 (by simp [go_sem]); have y6 : w2.cell? ⟨w1.heap.size, 6, none⟩ = some (.slice (some ⟨b, 0, none⟩) 3 3) := cell_grown hb2 (by simp [go_sem])) | (go_at_call 66; refine (hpr _ b b0 b2 ((hb1.alloc hb1.size _).trans (hb2.mono (by have := hb1.size; simp; omega))) ((hch.grown (below_alloc _ _)).grown hb2)).mono ?_; rintro e w3 ⟨rfl, hb3⟩))
      refine bodyPost_ret (v := .bool v) (by simp [results, Try.f32, go_sem]) rfl ?_
      have hbb := (hb1.alloc hb1.size _).trans (hb2.mono (by have := hb1.size; simp; omega))
      exact ⟨rfl, hbb.trans (hb3.mono hbb.size)⟩
    · rw [Bool.not_eq_true] at hc
      rw [hc] at hcov ⊢
      clear hL hR sL sR hS hT fL fR hc hTl ht hk hG hnl hnr
      go_enter Try.func32, Try.ntmps32
      go_wp2_with (first | (go_at_call 52; refine hp.mono ?_; clear hp; rintro e w1 ⟨hb1, ⟨hne, -⟩ | ⟨-, b, b0, b2, rfl, hch⟩⟩; (exact (hne hz).elim); clear hz) | (go_at_call 65; refine (hcov _ b (hb1.alloc hb1.size _)).mono ?_; rintro e w2 ⟨rfl, hb2⟩))
      refine bodyPost_ret (v := .bool false) (by simp [results, Try.f32, go_sem]) rfl ?_
      exact ⟨rfl, (hb1.alloc hb1.size _).trans (hb2.mono (by have := hb1.size; simp; omega))⟩
  · have h0' : ((z : Int) == 0) = false := by simp [h0]
    clear hL hR sL sR hS hT
    rw [decide_eq_false h0]
    go_enter Try.func32, Try.ntmps32
    go_wp2_with (first | (go_at_call 52; refine hp.mono ?_; clear hp; rintro e w1 ⟨hb1, ⟨-, rfl⟩ | ⟨hne, -⟩⟩; rotate_left 1; (exact (h0 (hz.symm.trans hne)).elim); rw [hz]; clear hz))
    refine bodyPost_ret (v := .bool false) (by simp [results, Try.f32, go_sem]) rfl ?_
    exact ⟨rfl, hb1.alloc hb1.size _⟩

end Go.Proofs.Ytohahlnhbppnhaa
