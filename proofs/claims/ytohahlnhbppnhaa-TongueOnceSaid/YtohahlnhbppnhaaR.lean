/- Tongue: the error of two texts; what is matched. -/
import Derived.Test.YtohahlnhbppnhaaQ
namespace Go.Proofs.Ytohahlnhbppnhaa
open Go.RowKit
set_option linter.unusedSimpArgs false
set_option linter.unusedVariables false

set_option maxHeartbeats 400000 in
theorem limT1_any (T : List Sen) (n cap fb : Nat) (a : Option Addr) (w : World) (hT : T.length = n) (hsm : Small T) (hS : TextAt w a T) (hf : w.cell? ⟨fb, 0, none⟩ = some (.func (.func 107) #[] #[])) :
    Calls Try.prog 128 #[.slice a n cap, .pointer (some ⟨fb, 0, none⟩)] w fun e w' => e = .returned (.bool (!limT T)) ∧ Below w.heap.size w w' := by
  have hfb := lt_of_cell hf
  have hp := limited_any T n cap a w hT hsm hS
  clear hT
  go_enter Try.func128, Try.ntmps128
  go_wp2_with fail
  refine hp.mono ?_
  rintro e w' ⟨rfl, hb⟩
  go_wp2_with fail
  go_ret
  exact ⟨rfl, hb⟩

set_option maxRecDepth 100000 in
set_option maxHeartbeats 1000000 in
theorem limT_index (L R : List Sen) (nl cl nr cr : Nat) (la ra : Option Addr) (w : World) (hL : L.length = nl) (hR : R.length = nr) (sL : Small L) (sR : Small R) (hS : TextAt w la L) (hT : TextAt w ra R) (b fb : Nat) (e0 : w.cell? ⟨b, 0, none⟩ = some (.slice la nl cl)) (e1 : w.cell? ⟨b, 1, none⟩ = some (.slice ra nr cr)) (hf : w.cell? ⟨fb, 0, none⟩ = some (.func (.func 107) #[] #[])) :
    Calls Try.prog 137 #[.slice (some ⟨b, 0, none⟩) 2 2, .func (.func 128) #[] #[.pointer (some ⟨fb, 0, none⟩)]] w fun e w' => ∃ z : Int, e = .returned (.int .i64 z) ∧ Below w.heap.size w w' ∧ Hid (decide (0 ≤ z) = !(limT L && limT R)) := by
  go_enter Try.func137, Try.ntmps137
  go_wp2_with fail
  go_loopw [8] (fun i wr => ∃ j : Nat, j ≤ 2 ∧ i = .int .i64 j ∧ Hid ((0 < j → limT L = true) ∧ (1 < j → limT R = true)) ∧ Below w.heap.size w wr) (fun i _ => 2 - (intOf i).toNat)
  case atStart => exact ⟨0, Nat.zero_le _, rfl, hid ⟨fun h => by omega, fun h => by omega⟩, Below.refl _ _⟩
  case round =>
    obtain ⟨j, hj, rfl, HK, hB⟩ := hrel
    have q0 := cell_grown hB e0
    have q1 := cell_grown hB e1
    have gb := lt_of_cell q0
    have hj' : j = 0 ∨ j = 1 ∨ j = 2 := by omega
    rcases hj' with rfl | rfl | rfl
    · have hcall := limT1_any L nl cl fb la wr hL sL (hS.grown hB) (cell_grown hB hf)
      obtain ⟨r, hr⟩ : ∃ r, limT L = r := ⟨_, rfl⟩
      rw [hr] at hcall
      have HR := hid hr
      clear hr
      go_wp2_with fail
      refine hcall.mono ?_
      cases hv : r
      · rintro e w' ⟨rfl, hb⟩
        have HAL : Hid ((limT L && limT R) = false) := hid (by rw [HR.out, hv]; simp)
        clear hv
        go_wp2_with fail
        go_ret
        exact ⟨0, rfl, below_then hB hb, hid (by rw [HAL.out]; simp)⟩
      · rintro e w' ⟨rfl, hb⟩
        have HV : Hid (limT L = true) := hid (by rw [HR.out, hv])
        clear hv
        go_wp2_with fail
        go_roundw
        case rel => exact ⟨1, by omega, by go_num, hid ⟨fun _ => HV.out, fun h => by omega⟩, below_then hB hb⟩
        case measure => simp [intOf]
    · have hcall := limT1_any R nr cr fb ra wr hR sR (hT.grown hB) (cell_grown hB hf)
      obtain ⟨r, hr⟩ : ∃ r, limT R = r := ⟨_, rfl⟩
      rw [hr] at hcall
      have HR := hid hr
      clear hr
      go_wp2_with fail
      refine hcall.mono ?_
      cases hv : r
      · rintro e w' ⟨rfl, hb⟩
        have HAL : Hid ((limT L && limT R) = false) := hid (by rw [HR.out, hv]; simp)
        clear hv
        go_wp2_with fail
        go_ret
        exact ⟨1, rfl, below_then hB hb, hid (by rw [HAL.out]; simp)⟩
      · rintro e w' ⟨rfl, hb⟩
        have HV : Hid (limT R = true) := hid (by rw [HR.out, hv])
        clear hv
        go_wp2_with fail
        go_roundw
        case rel => exact ⟨2, by omega, by go_num, hid ⟨fun _ => HK.out.1 (by omega), fun _ => HV.out⟩, below_then hB hb⟩
        case measure => simp [intOf]
    · have HAL : Hid ((limT L && limT R) = true) := hid (by rw [HK.out.1 (by omega), HK.out.2 (by omega)]; rfl)
      go_wp2_with fail
      go_ret
      exact ⟨-1, rfl, hB, hid (by rw [HAL.out]; rfl)⟩

set_option maxHeartbeats 400000 in
theorem limT_all (L R : List Sen) (nl cl nr cr : Nat) (la ra : Option Addr) (w : World) (hL : L.length = nl) (hR : R.length = nr) (sL : Small L) (sR : Small R) (hS : TextAt w la L) (hT : TextAt w ra R) (b : Nat) (e0 : w.cell? ⟨b, 0, none⟩ = some (.slice la nl cl)) (e1 : w.cell? ⟨b, 1, none⟩ = some (.slice ra nr cr)) :
    Calls Try.prog 106 #[.slice (some ⟨b, 0, none⟩) 2 2, .func (.func 107) #[] #[]] w fun e w' => e = .returned (.bool (limT L && limT R)) ∧ Below w.heap.size w w' := by
  have hB : Below w.heap.size w (w.alloc (.cells #[.func (.func 107) #[] #[]] 178)) := below_alloc _ _
  have hc : Calls Try.prog 127 #[.slice (some ⟨b, 0, none⟩) 2 2, .func (.func 128) #[] #[.pointer (some ⟨w.heap.size, 0, none⟩)]] (w.alloc (.cells #[.func (.func 107) #[] #[]] 178)) fun e w' => e = .returned (.bool (!(limT L && limT R))) ∧ Below (w.alloc (.cells #[.func (.func 107) #[] #[]] 178)).heap.size (w.alloc (.cells #[.func (.func 107) #[] #[]] 178)) w' := by
    have hi := limT_index L R nl cl nr cr la ra _ hL hR sL sR (hS.grown hB) (hT.grown hB) b w.heap.size (cell_grown hB e0) (cell_grown hB e1) (by simp [go_sem])
    go_enter Try.func127, Try.ntmps127
    go_wp2_with fail
    refine hi.mono ?_
    rintro e w' ⟨z, rfl, hb, hz⟩
    have HZ := hid hz.out
    clear hz
    go_wp2_with fail
    go_ret
    exact ⟨by rw [← HZ.out]; simp, hb⟩
  go_enter Try.func106, Try.ntmps106
  go_wp2_with fail
  refine hc.mono ?_
  rintro e w' ⟨rfl, hb⟩
  go_wp2_with fail
  go_ret
  exact ⟨by simp, hB.trans (hb.mono hB.size)⟩

set_option maxHeartbeats 400000 in
theorem valT1_any (T : List Sen) (n cap fb : Nat) (a : Option Addr) (w : World) (hT : T.length = n) (hsm : Small T) (hS : TextAt w a T) (hf : w.cell? ⟨fb, 0, none⟩ = some (.func (.func 108) #[] #[])) :
    Calls Try.prog 128 #[.slice a n cap, .pointer (some ⟨fb, 0, none⟩)] w fun e w' => e = .returned (.bool (!valT T)) ∧ Below w.heap.size w w' := by
  have hfb := lt_of_cell hf
  have hp := valid_any T n cap a w hT hsm hS
  clear hT
  go_enter Try.func128, Try.ntmps128
  go_wp2_with fail
  refine hp.mono ?_
  rintro e w' ⟨rfl, hb⟩
  go_wp2_with fail
  go_ret
  exact ⟨rfl, hb⟩

set_option maxRecDepth 100000 in
set_option maxHeartbeats 1000000 in
theorem valT_index (L R : List Sen) (nl cl nr cr : Nat) (la ra : Option Addr) (w : World) (hL : L.length = nl) (hR : R.length = nr) (sL : Small L) (sR : Small R) (hS : TextAt w la L) (hT : TextAt w ra R) (b fb : Nat) (e0 : w.cell? ⟨b, 0, none⟩ = some (.slice la nl cl)) (e1 : w.cell? ⟨b, 1, none⟩ = some (.slice ra nr cr)) (hf : w.cell? ⟨fb, 0, none⟩ = some (.func (.func 108) #[] #[])) :
    Calls Try.prog 137 #[.slice (some ⟨b, 0, none⟩) 2 2, .func (.func 128) #[] #[.pointer (some ⟨fb, 0, none⟩)]] w fun e w' => ∃ z : Int, e = .returned (.int .i64 z) ∧ Below w.heap.size w w' ∧ Hid (decide (0 ≤ z) = !(valT L && valT R)) := by
  go_enter Try.func137, Try.ntmps137
  go_wp2_with fail
  go_loopw [8] (fun i wr => ∃ j : Nat, j ≤ 2 ∧ i = .int .i64 j ∧ Hid ((0 < j → valT L = true) ∧ (1 < j → valT R = true)) ∧ Below w.heap.size w wr) (fun i _ => 2 - (intOf i).toNat)
  case atStart => exact ⟨0, Nat.zero_le _, rfl, hid ⟨fun h => by omega, fun h => by omega⟩, Below.refl _ _⟩
  case round =>
    obtain ⟨j, hj, rfl, HK, hB⟩ := hrel
    have q0 := cell_grown hB e0
    have q1 := cell_grown hB e1
    have gb := lt_of_cell q0
    have hj' : j = 0 ∨ j = 1 ∨ j = 2 := by omega
    rcases hj' with rfl | rfl | rfl
    · have hcall := valT1_any L nl cl fb la wr hL sL (hS.grown hB) (cell_grown hB hf)
      obtain ⟨r, hr⟩ : ∃ r, valT L = r := ⟨_, rfl⟩
      rw [hr] at hcall
      have HR := hid hr
      clear hr
      go_wp2_with fail
      refine hcall.mono ?_
      cases hv : r
      · rintro e w' ⟨rfl, hb⟩
        have HAL : Hid ((valT L && valT R) = false) := hid (by rw [HR.out, hv]; simp)
        clear hv
        go_wp2_with fail
        go_ret
        exact ⟨0, rfl, below_then hB hb, hid (by rw [HAL.out]; simp)⟩
      · rintro e w' ⟨rfl, hb⟩
        have HV : Hid (valT L = true) := hid (by rw [HR.out, hv])
        clear hv
        go_wp2_with fail
        go_roundw
        case rel => exact ⟨1, by omega, by go_num, hid ⟨fun _ => HV.out, fun h => by omega⟩, below_then hB hb⟩
        case measure => simp [intOf]
    · have hcall := valT1_any R nr cr fb ra wr hR sR (hT.grown hB) (cell_grown hB hf)
      obtain ⟨r, hr⟩ : ∃ r, valT R = r := ⟨_, rfl⟩
      rw [hr] at hcall
      have HR := hid hr
      clear hr
      go_wp2_with fail
      refine hcall.mono ?_
      cases hv : r
      · rintro e w' ⟨rfl, hb⟩
        have HAL : Hid ((valT L && valT R) = false) := hid (by rw [HR.out, hv]; simp)
        clear hv
        go_wp2_with fail
        go_ret
        exact ⟨1, rfl, below_then hB hb, hid (by rw [HAL.out]; simp)⟩
      · rintro e w' ⟨rfl, hb⟩
        have HV : Hid (valT R = true) := hid (by rw [HR.out, hv])
        clear hv
        go_wp2_with fail
        go_roundw
        case rel => exact ⟨2, by omega, by go_num, hid ⟨fun _ => HK.out.1 (by omega), fun _ => HV.out⟩, below_then hB hb⟩
        case measure => simp [intOf]
    · have HAL : Hid ((valT L && valT R) = true) := hid (by rw [HK.out.1 (by omega), HK.out.2 (by omega)]; rfl)
      go_wp2_with fail
      go_ret
      exact ⟨-1, rfl, hB, hid (by rw [HAL.out]; rfl)⟩

set_option maxHeartbeats 400000 in
theorem valT_all (L R : List Sen) (nl cl nr cr : Nat) (la ra : Option Addr) (w : World) (hL : L.length = nl) (hR : R.length = nr) (sL : Small L) (sR : Small R) (hS : TextAt w la L) (hT : TextAt w ra R) (b : Nat) (e0 : w.cell? ⟨b, 0, none⟩ = some (.slice la nl cl)) (e1 : w.cell? ⟨b, 1, none⟩ = some (.slice ra nr cr)) :
    Calls Try.prog 106 #[.slice (some ⟨b, 0, none⟩) 2 2, .func (.func 108) #[] #[]] w fun e w' => e = .returned (.bool (valT L && valT R)) ∧ Below w.heap.size w w' := by
  have hB : Below w.heap.size w (w.alloc (.cells #[.func (.func 108) #[] #[]] 178)) := below_alloc _ _
  have hc : Calls Try.prog 127 #[.slice (some ⟨b, 0, none⟩) 2 2, .func (.func 128) #[] #[.pointer (some ⟨w.heap.size, 0, none⟩)]] (w.alloc (.cells #[.func (.func 108) #[] #[]] 178)) fun e w' => e = .returned (.bool (!(valT L && valT R))) ∧ Below (w.alloc (.cells #[.func (.func 108) #[] #[]] 178)).heap.size (w.alloc (.cells #[.func (.func 108) #[] #[]] 178)) w' := by
    have hi := valT_index L R nl cl nr cr la ra _ hL hR sL sR (hS.grown hB) (hT.grown hB) b w.heap.size (cell_grown hB e0) (cell_grown hB e1) (by simp [go_sem])
    go_enter Try.func127, Try.ntmps127
    go_wp2_with fail
    refine hi.mono ?_
    rintro e w' ⟨z, rfl, hb, hz⟩
    have HZ := hid hz.out
    clear hz
    go_wp2_with fail
    go_ret
    exact ⟨by rw [← HZ.out]; simp, hb⟩
  go_enter Try.func106, Try.ntmps106
  go_wp2_with fail
  refine hc.mono ?_
  rintro e w' ⟨rfl, hb⟩
  go_wp2_with fail
  go_ret
  exact ⟨by simp, hB.trans (hb.mono hB.size)⟩

/-- The error of two texts. -/
def faultM (L R : List Sen) : Int := if limT L && limT R then (if valT L && valT R then 0 else 1) else 3

set_option maxHeartbeats 1000000 in
theorem fault_any (L R : List Sen) (nl cl nr cr : Nat) (la ra : Option Addr) (w : World) (hL : L.length = nl) (hR : R.length = nr) (sL : Small L) (sR : Small R) (hS : TextAt w la L) (hT : TextAt w ra R) (b : Nat) (e0 : w.cell? ⟨b, 0, none⟩ = some (.slice la nl cl)) (e1 : w.cell? ⟨b, 1, none⟩ = some (.slice ra nr cr)) :
    Calls Try.prog 76 #[.slice (some ⟨b, 0, none⟩) 2 2] w fun e w' => e = .returned (.int .i64 (faultM L R)) ∧ Below w.heap.size w w' := by
  have h1 := limT_all L R nl cl nr cr la ra w hL hR sL sR hS hT b e0 e1
  have h2 : ∀ W, Below w.heap.size w W → Calls Try.prog 106 #[.slice (some ⟨b, 0, none⟩) 2 2, .func (.func 108) #[] #[]] W fun e w' => e = .returned (.bool (valT L && valT R)) ∧ Below W.heap.size W w' := fun W hW => valT_all L R nl cl nr cr la ra W hL hR sL sR (hS.grown hW) (hT.grown hW) b (cell_grown hW e0) (cell_grown hW e1)
  unfold faultM
  clear hL hR sL sR hS hT
  cases hl : (limT L && limT R)
  · rw [hl] at h1
    clear hl
    go_enter Try.func76, Try.ntmps76
    go_wp2_with (go_at_call 106; refine h1.mono ?_; rintro e w' ⟨rfl, hb⟩)
    go_ret
    exact ⟨rfl, hb⟩
  · rw [hl] at h1
    clear hl
    cases hv : (valT L && valT R)
    · rw [hv] at h2
      clear hv
      go_enter Try.func76, Try.ntmps76
      go_wp2_with (first | (go_at_call 106; refine h1.mono ?_; clear h1; rintro e w1 ⟨rfl, hb⟩; replace h2 := h2 _ hb) | (go_at_call 106; refine h2.mono ?_; rintro e w2 ⟨rfl, hb2⟩))
      go_ret
      exact ⟨rfl, below_then hb hb2⟩
    · rw [hv] at h2
      clear hv
      go_enter Try.func76, Try.ntmps76
      go_wp2_with (first | (go_at_call 106; refine h1.mono ?_; clear h1; rintro e w1 ⟨rfl, hb⟩; replace h2 := h2 _ hb) | (go_at_call 106; refine h2.mono ?_; rintro e w2 ⟨rfl, hb2⟩))
      go_ret
      exact ⟨rfl, below_then hb hb2⟩

end Go.Proofs.Ytohahlnhbppnhaa
