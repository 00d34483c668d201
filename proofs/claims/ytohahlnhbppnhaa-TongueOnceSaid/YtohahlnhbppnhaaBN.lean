/- Tongue, the laws: the error of a match; the report that counts, in numbers. -/
import Derived.Test.YtohahlnhbppnhaaBM
import Derived.Test.YtohahlnhbppnhaaBJ
namespace Go.Proofs.Ytohahlnhbppnhaa
open Go.RowKit
set_option linter.unusedSimpArgs false
set_option linter.unusedVariables false

/-- The error of two texts with steps. -/
def matchedE (L R : List Sen) (l : List (Int × Int)) : Int := if faultM L R = 0 then (if isM L.length R.length l then 0 else 9) else faultM L R

set_option maxHeartbeats 1000000 in
theorem lawFault_any (L R : List Sen) (n m nc mc : Nat) (la ra : Option Addr) (w : World) (hL : L.length = n) (hR : R.length = m) (hn : n ≤ 1000) (hm : m ≤ 1000) (kL : ∀ s ∈ L, s.marks.length ≤ 1000) (kR : ∀ s ∈ R, s.marks.length ≤ 1000) (hS : TextAt w la L) (hT : TextAt w ra R) :
    Calls Try.prog 17 #[.slice la n nc, .slice ra m mc] w fun e w' => e = .returned (.int .i64 (faultM L R)) ∧ Below w.heap.size w w' := by
  have hf := refFault_any L R n m nc mc la ra w hL hR hn hm kL kR hS hT
  generalize faultM L R = z at hf ⊢
  clear hS hT
  go_enter Try.func17, Try.ntmps17
  go_wp2_with (go_at_call 51; refine hf.mono ?_; rintro e w1 ⟨rfl, hb⟩)
  go_ret
  exact ⟨rfl, hb⟩

set_option maxHeartbeats 1000000 in
theorem matched_any (L R : List Sen) (l : List (Int × Int)) (n m nc mc ns sc : Nat) (la ra sa : Option Addr) (w : World) (hL : L.length = n) (hR : R.length = m) (hn : n ≤ 1000) (hm : m ≤ 1000) (kL : ∀ s ∈ L, s.marks.length ≤ 1000) (kR : ∀ s ∈ R, s.marks.length ≤ 1000) (hS : TextAt w la L) (hT : TextAt w ra R) (hl : l.length = ns) (hns : ns ≤ 1000) (hP : PairsAt w sa l) :
    Calls Try.prog 27 #[.slice la n nc, .slice ra m mc, .slice sa ns sc] w fun e w' => e = .returned (.int .i64 (matchedE L R l)) ∧ Below w.heap.size w w' := by
  have hf := lawFault_any L R n m nc mc la ra w hL hR hn hm kL kR hS hT
  have hi := fun W (hb : Below w.heap.size w W) => isMatch_any l n nc m mc ns sc la ra sa W hn hm hl hns (hP.grown hb)
  have HE : Hid (matchedE L R l = if faultM L R = 0 then (if isM n m l then 0 else 9) else faultM L R) := hid (by unfold matchedE; rw [hL, hR])
  generalize faultM L R = z at hf HE
  clear hS hT hP hL hR hl
  by_cases hz : z = 0
  · subst hz
    cases hb : isM n m l with
    | true =>
      rw [hb] at hi HE
      go_enter Try.func27, Try.ntmps27
      go_wp2_with (first | (go_at_call 17; refine hf.mono ?_; rintro e w1 ⟨rfl, hb1⟩) | (go_at_call 62; refine (hi _ hb1).mono ?_; rintro e w2 ⟨rfl, hb2⟩))
      go_ret
      exact ⟨by rw [HE.out]; rfl, below_then hb1 hb2⟩
    | false =>
      rw [hb] at hi HE
      go_enter Try.func27, Try.ntmps27
      go_wp2_with (first | (go_at_call 17; refine hf.mono ?_; rintro e w1 ⟨rfl, hb1⟩) | (go_at_call 62; refine (hi _ hb1).mono ?_; rintro e w2 ⟨rfl, hb2⟩))
      go_ret
      exact ⟨by rw [HE.out]; rfl, below_then hb1 hb2⟩
  · have hz' : (z == 0) = false := by simpa using hz
    go_enter Try.func27, Try.ntmps27
    go_wp2_with (go_at_call 17; refine hf.mono ?_; rintro e w1 ⟨rfl, hb1⟩)
    go_ret
    exact ⟨by rw [HE.out]; simp [hz], hb1⟩

/-- The steps that are taken, with their places, by sums. -/
theorem go_entries (nl nr : Nat) (l : List (Int × Int)) : ∀ (i k : Nat) (ms : List (Nat × Nat × Nat × Nat)) (a c : Nat), goM nl nr l i k = some (ms, a, c) → ∀ j, j < l.length →
    ms.getD j default = (i + (sumL (l.take j)).toNat, k + (sumR (l.take j)).toNat, (l.getD j (0, 0)).1.toNat, (l.getD j (0, 0)).2.toNat) ∧ 0 ≤ sumL (l.take j) ∧ 0 ≤ sumR (l.take j) ∧ 0 ≤ (l.getD j (0, 0)).1 ∧ 0 ≤ (l.getD j (0, 0)).2 := by
  induction l with
  | nil => intro i k ms a c h j hj; simp at hj
  | cons s l ih =>
    intro i k ms a c h j hj
    simp only [goM] at h
    cases hx : takeM nl nr i k s.1 s.2 with
    | none => rw [hx] at h; cases h
    | some t =>
      rw [hx] at h
      simp only at h
      obtain ⟨-, e1, e2⟩ := take_mem hx
      cases hg : goM nl nr l (i + t.1) (k + t.2) with
      | none => rw [hg] at h; cases h
      | some r =>
        rw [hg] at h
        obtain ⟨ms', a', c'⟩ := r
        simp only [Option.map_some, Option.some.injEq, Prod.mk.injEq] at h
        obtain ⟨rfl, rfl, rfl⟩ := h
        cases j with
        | zero =>
          have z1 : sumL ((s :: l).take 0) = 0 := rfl
          have z2 : sumR ((s :: l).take 0) = 0 := rfl
          rw [z1, z2]
          refine ⟨?_, Int.le_refl _, Int.le_refl _, ?_, ?_⟩
          · show (i, k, t.1, t.2) = (i + 0, k + 0, s.1.toNat, s.2.toNat)
            rw [show s.1.toNat = t.1 by omega, show s.2.toNat = t.2 by omega]
            rfl
          · show 0 ≤ s.1; omega
          · show 0 ≤ s.2; omega
        | succ j =>
          obtain ⟨h1, h2, h3, h4, h5⟩ := ih _ _ _ _ _ hg j (by simpa using hj)
          have z1 : sumL ((s :: l).take (j + 1)) = s.1 + sumL (l.take j) := rfl
          have z2 : sumR ((s :: l).take (j + 1)) = s.2 + sumR (l.take j) := rfl
          rw [z1, z2]
          refine ⟨?_, by omega, by omega, h4, h5⟩
          show ms'.getD j default = _
          rw [h1]
          have y1 : (s.1 + sumL (l.take j)).toNat = t.1 + (sumL (l.take j)).toNat := by omega
          have y2 : (s.2 + sumR (l.take j)).toNat = t.2 + (sumR (l.take j)).toNat := by omega
          rw [y1, y2, Nat.add_assoc, Nat.add_assoc]
          rfl

end Go.Proofs.Ytohahlnhbppnhaa
