/- Tongue, the laws: what is small enough; copies of numbers. -/
import Derived.Test.YtohahlnhbppnhaaZ
import Derived.Laws.AppendOwnNone
namespace Go.Proofs.Ytohahlnhbppnhaa
open Go.RowKit
set_option linter.unusedSimpArgs false
set_option linter.unusedVariables false

/-- Has a sentence at most 15 marks? -/
def fewS (s : Sen) : Bool := decide (s.marks.length ≤ 15)

def fewM (L R : List Sen) : Bool := L.all fewS && (R.all fewS && (decide (L.length ≤ 22) && decide (R.length ≤ 22)))

set_option maxRecDepth 100000 in
set_option maxHeartbeats 1000000 in
theorem few_any (L R : List Sen) (n m nc mc : Nat) (la ra : Option Addr) (w : World) (hL : L.length = n) (hR : R.length = m) (hn : n ≤ 9223372036854775807) (hm : m ≤ 9223372036854775807) (hS : TextAt w la L) (hT : TextAt w ra R) :
    Calls Try.prog 16 #[.slice la n nc, .slice ra m mc] w fun e w' => e = .returned (.bool (fewM L R)) ∧ w' = w := by
  have HL := hid hL
  have HR := hid hR
  have HM : Hid (fewM L R = (L.all fewS && (R.all fewS && (decide (n ≤ 22) && decide (m ≤ 22))))) := hid (by rw [← hL, ← hR]; rfl)
  clear hL hR
  go_enter Try.func16, Try.ntmps16
  go_wp2_with fail
  go_loopw [5] (fun i wr => ∃ j : Nat, j ≤ n ∧ i = .int .i64 j ∧ Hid (∀ i, i < j → fewS (L.getD i default) = true) ∧ wr = w) (fun i _ => n - (intOf i).toNat)
  case atStart => exact ⟨0, Nat.zero_le _, rfl, hid (fun i hi => by omega), rfl⟩
  case round =>
    obtain ⟨j, hj, rfl, HK, rfl⟩ := hrel
    by_cases hlt : j < n
    · have hlt' : (j : Int) < n := by omega
      obtain ⟨b, off, ma, c, ea, e1, -, e3⟩ := hS j (by rw [HL.out]; exact hlt)
      subst ea
      obtain ⟨k, hk⟩ : ∃ k, (L.getD j default).marks.length = k := ⟨_, rfl⟩
      rw [hk] at e1
      have HF : Hid (fewS (L.getD j default) = decide (k ≤ 15)) := hid (by unfold fewS; rw [hk])
      clear e3 hk
      by_cases h15 : k ≤ 15
      · have h15' : ¬ (15 : Int) < (k : Int) := by omega
        have HV : Hid (fewS (L.getD j default) = true) := hid (by rw [HF.out]; simp [h15])
        clear h15
        go_wp2_with fail
        go_roundw
        case rel => exact ⟨j + 1, by omega, by go_num, hid (fun i hi => by
          by_cases e : i = j
          · subst e; exact HV.out
          · exact HK.out i (by omega)), by trivial⟩
        case measure => simp [intOf]; omega
      · have h15' : (15 : Int) < (k : Int) := by omega
        have hal : L.all fewS = false := allS_false (i := j) (by rw [HL.out]; exact hlt) (by rw [HF.out]; simp [h15])
        have HX : Hid (fewM L R = false) := hid (by rw [HM.out, hal]; rfl)
        clear h15 hal
        go_wp2_with fail
        go_ret
        exact ⟨by rw [HX.out]; rfl, rfl⟩
    · have hjn : j = n := by omega
      subst hjn
      have hal : L.all fewS = true := allS_true (fun i hi => HK.out i (by rw [← HL.out]; exact hi))
      have HX : Hid (fewM L R = (R.all fewS && (decide (j ≤ 22) && decide (m ≤ 22)))) := hid (by rw [HM.out, hal]; rfl)
      clear hal
      go_wp2_with fail
      go_loopw [6] (fun i wr2 => ∃ q : Nat, q ≤ m ∧ i = .int .i64 q ∧ Hid (∀ i, i < q → fewS (R.getD i default) = true) ∧ wr2 = wr) (fun i _ => m - (intOf i).toNat)
      case atStart => exact ⟨0, Nat.zero_le _, rfl, hid (fun i hi => by omega), rfl⟩
      case round =>
        obtain ⟨q, hq, rfl, HQ, rfl⟩ := hrel
        by_cases hlt2 : q < m
        · have hlt2' : (q : Int) < m := by omega
          obtain ⟨b, off, ma, c, ea, e1, -, e3⟩ := hT q (by rw [HR.out]; exact hlt2)
          subst ea
          obtain ⟨k, hk⟩ : ∃ k, (R.getD q default).marks.length = k := ⟨_, rfl⟩
          rw [hk] at e1
          have HF : Hid (fewS (R.getD q default) = decide (k ≤ 15)) := hid (by unfold fewS; rw [hk])
          clear e3 hk
          by_cases h15 : k ≤ 15
          · have h15' : ¬ (15 : Int) < (k : Int) := by omega
            have HV : Hid (fewS (R.getD q default) = true) := hid (by rw [HF.out]; simp [h15])
            clear h15
            go_wp2_with fail
            go_roundw
            case rel => exact ⟨q + 1, by omega, by go_num, hid (fun i hi => by
              by_cases e : i = q
              · subst e; exact HV.out
              · exact HQ.out i (by omega)), by trivial⟩
            case measure => simp [intOf]; omega
          · have h15' : (15 : Int) < (k : Int) := by omega
            have hal : R.all fewS = false := allS_false (i := q) (by rw [HR.out]; exact hlt2) (by rw [HF.out]; simp [h15])
            have HY : Hid (fewM L R = false) := hid (by rw [HX.out, hal]; rfl)
            clear h15 hal
            go_wp2_with fail
            go_ret
            exact ⟨by rw [HY.out]; rfl, rfl⟩
        · have hqm : q = m := by omega
          subst hqm
          have hal : R.all fewS = true := allS_true (fun i hi => HQ.out i (by rw [← HR.out]; exact hi))
          have HY : Hid (fewM L R = (decide (j ≤ 22) && decide (q ≤ 22))) := hid (by rw [HX.out, hal]; rfl)
          clear hal
          by_cases h1 : j ≤ 22
          · have h1' : (j : Int) ≤ 22 := by omega
            by_cases h2 : q ≤ 22
            · have h2' : (q : Int) ≤ 22 := by omega
              have HZ : Hid (fewM L R = true) := hid (by rw [HY.out]; simp [h1, h2])
              go_wp2_with fail
              go_ret
              exact ⟨by rw [HZ.out]; rfl, rfl⟩
            · have h2' : ¬ (q : Int) ≤ 22 := by omega
              have HZ : Hid (fewM L R = false) := hid (by rw [HY.out]; simp [h2])
              go_wp2_with fail
              go_ret
              exact ⟨by rw [HZ.out]; rfl, rfl⟩
          · have h1' : ¬ (j : Int) ≤ 22 := by omega
            have HZ : Hid (fewM L R = false) := hid (by rw [HY.out]; simp [h1])
            go_wp2_with fail
            go_ret
            exact ⟨by rw [HZ.out]; rfl, rfl⟩

end Go.Proofs.Ytohahlnhbppnhaa
