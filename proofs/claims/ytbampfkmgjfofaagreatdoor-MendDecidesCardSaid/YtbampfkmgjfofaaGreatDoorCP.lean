/- Mend, the laws: is the one taken sooner than the other one, by the definition: sooner. -/
import Derived.Test.YtbampfkmgjfofaaGreatDoorBM
import Derived.Deep.RegionHeld3
import Derived.IntWalk
import Derived.Deep.QuietTactic
import Derived.BigQuiet
namespace Go.Proofs.YtbampfkmgjfofaaGreatDoor
open Go.RowKit

theorem soonB_is {L : List Req} {i k : Nat} : soonB L i k =
    if (L.getD i default).m ≠ (L.getD k default).m then decide ((L.getD i default).m < (L.getD k default).m) else if (L.getD i default).b ≠ (L.getD k default).b then decide ((L.getD i default).b < (L.getD k default).b) else decide (i < k) := by
  unfold soonB ltI
  rw [ltOf_cmpA, ltOf_cmpA]
  rw [Bool.eq_iff_iff]
  unfold askI
  split
  · simp only [Bool.or_eq_true, Bool.and_eq_true, Bool.not_eq_true', decide_eq_true_eq, decide_eq_false_iff_not]; omega
  · split
    · simp only [Bool.or_eq_true, Bool.and_eq_true, Bool.not_eq_true', decide_eq_true_eq, decide_eq_false_iff_not]; omega
    · simp only [Bool.or_eq_true, Bool.and_eq_true, Bool.not_eq_true', decide_eq_true_eq, decide_eq_false_iff_not]; omega

set_option maxRecDepth 100000 in
set_option maxHeartbeats 4000000 in
theorem sooner_any (L : List Req) (rn rc : Nat) (ra : Option Addr) (i k : Nat) (w : World) (hL : L.length = rn) (hQ : ReqsAt w ra L) (hi : i < rn) (hk : k < rn) :
    Calls Tryz.prog 61 #[.slice ra rn rc, .int .i64 i, .int .i64 k] w fun e w' => e = .returned (.bool (soonB L i k)) ∧ Below w.heap.size w w' := by
  rw [soonB_is]
  obtain ⟨b, off, pa, pc, rfl, e0, e1, -, -, -, -⟩ := hQ i (by rw [hL]; exact hi)
  obtain ⟨_, _, pa2, pc2, e, f0, f1, -, -, -, -⟩ := hQ k (by rw [hL]; exact hk)
  cases e
  generalize L.getD i default = x at e0 e1 ⊢
  generalize L.getD k default = y at f0 f1 ⊢
  obtain ⟨xb, xm, xf, xc, xp⟩ := x
  obtain ⟨yb, ym, yf, yc, yp⟩ := y
  simp only at e0 e1 f0 f1 ⊢
  have g := lt_of_cell e0
  have i0 : (0 : Int) ≤ (i : Int) := by omega
  have k0 : (0 : Int) ≤ (k : Int) := by omega
  have i1 : (i : Int) < (rn : Int) := by omega
  have k1 : (k : Int) < (rn : Int) := by omega
  have hcase : ((xm != ym) = true ∧ xm ≠ ym) ∨ ((xm != ym) = false ∧ xm = ym) := by
    by_cases h : xm = ym
    · exact .inr ⟨by simp [h], h⟩
    · exact .inl ⟨by simp [h], h⟩
  have hcase2 : ((xb != yb) = true ∧ xb ≠ yb) ∨ ((xb != yb) = false ∧ xb = yb) := by
    by_cases h : xb = yb
    · exact .inr ⟨by simp [h], h⟩
    · exact .inl ⟨by simp [h], h⟩
  clear hQ hL
  rcases hcase with ⟨g1, h1⟩ | ⟨g1, h1⟩
  · rw [if_pos h1]
    have H1 := hid h1
    clear h1 hcase2
    go_enter Tryz.func61, Tryz.ntmps61
    go_wp2_with fail
    go_quiet (fail)
    go_wp2_with fail
    go_quiet (fail)
    go_wp2
    go_ret
    exact ⟨rfl, below_drewN (below_drewN (Below.refl _ _) _) _⟩
  · rw [if_neg (by simp [h1])]
    have H1 := hid h1
    clear h1
    rcases hcase2 with ⟨g2, h2⟩ | ⟨g2, h2⟩
    · rw [if_pos h2]
      have H2 := hid h2
      clear h2
      go_enter Tryz.func61, Tryz.ntmps61
      go_wp2_with fail
      go_quiet (fail)
      go_wp2_with fail
      go_quiet (fail)
      go_wp2_with fail
      go_quiet (fail)
      go_wp2
      go_ret
      exact ⟨rfl, below_drewN (below_drewN (below_drewN (Below.refl _ _) _) _) _⟩
    · rw [if_neg (by simp [h2])]
      have H2 := hid h2
      clear h2
      go_enter Tryz.func61, Tryz.ntmps61
      go_wp2_with fail
      go_quiet (fail)
      go_wp2_with fail
      go_quiet (fail)
      go_wp2
      go_ret
      exact ⟨by simp, below_drewN (Below.refl _ _) _⟩

end Go.Proofs.YtbampfkmgjfofaaGreatDoor
