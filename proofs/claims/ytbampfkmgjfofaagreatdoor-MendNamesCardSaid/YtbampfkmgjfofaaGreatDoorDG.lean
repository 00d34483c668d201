/- Mend, the laws: two lists of texts that are the same. -/
import Derived.Test.YtbampfkmgjfofaaGreatDoorX
import Derived.Deep.QuietTactic
import Derived.BigQuiet
import Derived.IntWalk
namespace Go.Proofs.YtbampfkmgjfofaaGreatDoor
open Go.RowKit

theorem list_same {A B : List Tx} {n : Nat} (hA : A.length = n) (hB : B.length = n) (h : ∀ i, i < n → A.getD i .empty = B.getD i .empty) : A = B := by
  apply List.ext_getElem (by omega)
  intro i h1 h2
  have := h i (by omega)
  rwa [List.getD_eq_getElem?_getD, List.getD_eq_getElem?_getD, List.getElem?_eq_getElem h1, List.getElem?_eq_getElem h2, Option.getD_some, Option.getD_some] at this

set_option maxRecDepth 100000 in
set_option maxHeartbeats 1000000 in
theorem same_any (A B : List Tx) (n nc m mc : Nat) (aa ba : Option Addr) (w : World) (hA : A.length = n) (hn : n ≤ 1000) (hAS : Strs w aa A) (hB : B.length = m) (hm : m ≤ 1000) (hBS : Strs w ba B) :
    Calls Tryz.prog 46 #[.slice aa n nc, .slice ba m mc] w fun e w' => e = .returned (.bool (decide (A = B))) ∧ Below w.heap.size w w' := by
  obtain ⟨z, hz⟩ : ∃ z, decide (A = B) = z := ⟨_, rfl⟩
  rw [hz]
  have HZ := hid hz
  have HA := hid hA
  have HB := hid hB
  clear hz hA hB
  by_cases hnm : n = m
  case neg =>
    have hz : z = false := by
      rw [← HZ.out, decide_eq_false_iff_not]
      intro e
      have h1 := HA.out
      have h2 := HB.out
      rw [e] at h1
      omega
    subst hz
    have g : ((n : Int) != (m : Int)) = true := by simp; omega
    clear hnm
    go_enter Tryz.func46, Tryz.ntmps46
    go_wp2
    go_ret
    exact ⟨rfl, Below.refl _ _⟩
  subst hnm
  go_enter Tryz.func46, Tryz.ntmps46
  go_wp2_with fail
  go_loopw [5] (fun i wr => ∃ k : Nat, k ≤ n ∧ i = .int .i64 k ∧ Hid (∀ j, j < k → A.getD j .empty = B.getD j .empty) ∧ Below w.heap.size w wr) (fun i _ => n - (intOf i).toNat)
  case atStart => exact ⟨0, Nat.zero_le _, rfl, hid (fun j h => by omega), Below.refl _ _⟩
  case round =>
    obtain ⟨k, hk, rfl, HK, hBr⟩ := hrel
    by_cases hlt : k < n
    · have hlt' : (k : Int) < (n : Int) := by omega
      have k0 : (0 : Int) ≤ (k : Int) := by omega
      obtain ⟨b, off, rfl, e0⟩ := (hAS.grown hBr) k (by rw [HA.out]; exact hlt)
      obtain ⟨b2, off2, rfl, f0⟩ := (hBS.grown hBr) k (by rw [HB.out]; exact hlt)
      obtain ⟨s, hs⟩ : ∃ s, A.getD k .empty = s := ⟨_, rfl⟩
      obtain ⟨t, ht⟩ : ∃ t, B.getD k .empty = t := ⟨_, rfl⟩
      rw [hs] at e0
      rw [ht] at f0
      have g0 := lt_of_cell e0
      have g1 := lt_of_cell f0
      by_cases hst : s = t
      · have gs := tx_same hst
        have HN : Hid (∀ j, j < k + 1 → A.getD j .empty = B.getD j .empty) := hid (fun j hj => by
          by_cases e : j = k
          · rw [e, hs, ht, hst]
          · exact HK.out j (by omega))
        clear hs ht hst
        go_wp2_with fail
        go_quiet (fail)
        go_wp2
        go_roundw
        case rel => exact ⟨k + 1, by omega, by go_num, HN, below_drewN hBr _⟩
        case measure => simp [intOf]; omega
      · have gs := tx_diff hst
        have hz : z = false := by
          rw [← HZ.out, decide_eq_false_iff_not]
          intro e
          rw [e] at hs
          exact hst (by rw [← hs, ← ht])
        subst hz
        clear hs ht hst
        go_wp2_with fail
        go_quiet (fail)
        go_wp2
        go_ret
        exact ⟨rfl, below_drewN hBr _⟩
    · have hz : z = true := by
        rw [← HZ.out, decide_eq_true_eq]
        exact list_same HA.out HB.out fun i hi => HK.out i (by omega)
      subst hz
      go_wp2
      go_ret
      exact ⟨rfl, hBr⟩

end Go.Proofs.YtbampfkmgjfofaaGreatDoor
