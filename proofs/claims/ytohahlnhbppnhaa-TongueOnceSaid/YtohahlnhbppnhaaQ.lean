/- Tongue: which texts are valid. -/
import Derived.Test.YtohahlnhbppnhaaP
import Derived.Test.YtohahlnhbppnhaaC
namespace Go.Proofs.Ytohahlnhbppnhaa
open Go.RowKit
set_option linter.unusedSimpArgs false
set_option linter.unusedVariables false

/-- No sentence has more marks than a slice may have here. -/
def Small (T : List Sen) : Prop := T.length ≤ 1000000 ∧ ∀ s ∈ T, s.marks.length ≤ 1000000

theorem sen_mem {T : List Sen} {i : Nat} (h : i < T.length) : T.getD i default ∈ T := by
  rw [List.getD_eq_getElem?_getD, List.getElem?_eq_getElem h]
  exact List.getElem_mem _

theorem allS_true {p : Sen → Bool} {T : List Sen} (h : ∀ i, i < T.length → p (T.getD i default) = true) : T.all p = true := by
  rw [List.all_eq_true]
  intro x hx
  obtain ⟨i, hi, rfl⟩ := List.mem_iff_getElem.1 hx
  have := h i hi
  rwa [List.getD_eq_getElem?_getD, List.getElem?_eq_getElem hi, Option.getD_some] at this

theorem allS_false {p : Sen → Bool} {T : List Sen} {i : Nat} (hi : i < T.length) (h : p (T.getD i default) = false) : T.all p = false := by
  cases hv : T.all p
  · rfl
  · rw [List.all_eq_true] at hv
    rw [hv _ (sen_mem hi)] at h
    cases h

set_option maxHeartbeats 400000 in
theorem lim1_any (s : Sen) (mc fb : Nat) (ma : Option Addr) (w : World) (hn : s.marks.length ≤ 1000000) (hI : IntsAt w ma s.marks) (hf : w.cell? ⟨fb, 0, none⟩ = some (.func (.func 130) #[] #[])) :
    Calls Try.prog 139 #[.agg #[.slice ma s.marks.length mc, .int .i64 s.size], .pointer (some ⟨fb, 0, none⟩)] w fun e w' => e = .returned (.bool (!limS s)) ∧ Below w.heap.size w w' := by
  have hfb := lt_of_cell hf
  have hB : ∀ o, Below w.heap.size w (w.alloc o) := fun o => below_alloc w o
  have hp : Calls Try.prog 130 #[.agg #[.slice ma s.marks.length mc, .int .i64 s.size]] (w.alloc (.cells #[.slice ma s.marks.length mc, .int .i64 s.size] 91)) fun e w' => e = .returned (.bool (limS s)) ∧ Below (w.alloc (.cells #[.slice ma s.marks.length mc, .int .i64 s.size] 91)).heap.size (w.alloc (.cells #[.slice ma s.marks.length mc, .int .i64 s.size] 91)) w' := limS_any s mc ma _ hn
  generalize s.marks.length = m at hn hp ⊢
  generalize s.size = z at hp ⊢
  go_enter Try.func139, Try.ntmps139
  go_wp2_with fail
  refine hp.mono ?_
  rintro e w' ⟨rfl, hb⟩
  go_wp2_with fail
  go_ret
  exact ⟨rfl, (hB _).trans (hb.mono (by simp))⟩

set_option maxRecDepth 100000 in
set_option maxHeartbeats 1000000 in
theorem lim_index (T : List Sen) (n cap fb : Nat) (a : Option Addr) (w : World) (hT : T.length = n) (hsm : Small T) (hS : TextAt w a T) (hf : w.cell? ⟨fb, 0, none⟩ = some (.func (.func 130) #[] #[])) :
    Calls Try.prog 140 #[.slice a n cap, .func (.func 139) #[] #[.pointer (some ⟨fb, 0, none⟩)]] w fun e w' => ∃ z : Int, e = .returned (.int .i64 z) ∧ Below w.heap.size w w' ∧ Hid (decide (0 ≤ z) = !T.all limS) := by
  have hn' := hsm.1
  have HT := hid hT
  rw [hT] at hn'
  clear hT
  go_enter Try.func140, Try.ntmps140
  go_wp2_with fail
  go_loopw [8] (fun i wr => ∃ j : Nat, j ≤ n ∧ i = .int .i64 j ∧ Hid (∀ i, i < j → limS (T.getD i default) = true) ∧ Below w.heap.size w wr) (fun i _ => n - (intOf i).toNat)
  case atStart => exact ⟨0, Nat.zero_le _, rfl, hid (fun i hi => by omega), Below.refl _ _⟩
  case round =>
    obtain ⟨j, hj, rfl, HK, hB⟩ := hrel
    by_cases hlt : j < n
    · have hjj : (j : Int) < n := by omega
      obtain ⟨b, off, ma, mc, ea, e1, e2, e3⟩ := hS j (by rw [HT.out]; exact hlt)
      subst ea
      replace e1 := cell_grown hB e1
      replace e2 := cell_grown hB e2
      replace e3 := e3.grown hB
      have gb := lt_of_cell e1
      have hml := hsm.2 _ (sen_mem (T := T) (i := j) (by rw [HT.out]; exact hlt))
      have hcall := lim1_any (T.getD j default) mc fb ma wr hml e3 (cell_grown hB hf)
      obtain ⟨r, hr⟩ : ∃ r, limS (T.getD j default) = r := ⟨_, rfl⟩
      rw [hr] at hcall
      have HR := hid hr
      clear hr e3
      generalize (T.getD j default).marks.length = m at e1 hml hcall
      generalize (T.getD j default).size = z at e2 hcall
      go_wp2_with fail
      refine hcall.mono ?_
      cases hv : r
      · rintro e w' ⟨rfl, hb⟩
        have hal : T.all limS = false := allS_false (i := j) (by rw [HT.out]; exact hlt) (by rw [HR.out, hv])
        have HAL := hid hal
        clear hv hal
        go_wp2_with fail
        go_ret
        exact ⟨j, rfl, below_then hB hb, hid (by rw [HAL.out]; simp)⟩
      · rintro e w' ⟨rfl, hb⟩
        have HV : Hid (limS (T.getD j default) = true) := hid (by rw [HR.out, hv])
        clear hv
        go_wp2_with fail
        go_roundw
        case rel => exact ⟨j + 1, by omega, by go_num, hid (fun i hi => by
          by_cases e : i = j
          · subst e; exact HV.out
          · exact HK.out i (by omega)), below_then hB hb⟩
        case measure => simp [intOf]; omega
    · have hjn : j = n := by omega
      subst hjn
      have hal : T.all limS = true := allS_true (fun i hi => HK.out i (by rw [← HT.out]; exact hi))
      have HAL := hid hal
      clear hal
      go_wp2_with fail
      go_ret
      exact ⟨-1, rfl, hB, hid (by rw [HAL.out]; rfl)⟩

set_option maxHeartbeats 400000 in
theorem lim_all (T : List Sen) (n cap : Nat) (a : Option Addr) (w : World) (hT : T.length = n) (hsm : Small T) (hS : TextAt w a T) :
    Calls Try.prog 129 #[.slice a n cap, .func (.func 130) #[] #[]] w fun e w' => e = .returned (.bool (T.all limS)) ∧ Below w.heap.size w w' := by
  have hB : Below w.heap.size w (w.alloc (.cells #[.func (.func 130) #[] #[]] 195)) := below_alloc _ _
  have hc : Calls Try.prog 138 #[.slice a n cap, .func (.func 139) #[] #[.pointer (some ⟨w.heap.size, 0, none⟩)]] (w.alloc (.cells #[.func (.func 130) #[] #[]] 195)) fun e w' => e = .returned (.bool (!T.all limS)) ∧ Below (w.alloc (.cells #[.func (.func 130) #[] #[]] 195)).heap.size (w.alloc (.cells #[.func (.func 130) #[] #[]] 195)) w' := by
    have hi := lim_index T n cap w.heap.size a _ hT hsm (hS.grown hB) (by simp [go_sem])
    go_enter Try.func138, Try.ntmps138
    go_wp2_with fail
    refine hi.mono ?_
    rintro e w' ⟨z, rfl, hb, hz⟩
    have HZ := hid hz.out
    clear hz
    go_wp2_with fail
    go_ret
    exact ⟨by rw [← HZ.out]; simp, hb⟩
  go_enter Try.func129, Try.ntmps129
  go_wp2_with fail
  refine hc.mono ?_
  rintro e w' ⟨rfl, hb⟩
  go_wp2_with fail
  go_ret
  exact ⟨by simp, hB.trans (hb.mono hB.size)⟩

set_option maxHeartbeats 400000 in
theorem val1_any (s : Sen) (mc fb : Nat) (ma : Option Addr) (w : World) (hn : s.marks.length ≤ 1000000) (hI : IntsAt w ma s.marks) (hf : w.cell? ⟨fb, 0, none⟩ = some (.func (.func 131) #[] #[])) :
    Calls Try.prog 139 #[.agg #[.slice ma s.marks.length mc, .int .i64 s.size], .pointer (some ⟨fb, 0, none⟩)] w fun e w' => e = .returned (.bool (!valS s)) ∧ Below w.heap.size w w' := by
  have hfb := lt_of_cell hf
  have hB : ∀ o, Below w.heap.size w (w.alloc o) := fun o => below_alloc w o
  have hp : Calls Try.prog 131 #[.agg #[.slice ma s.marks.length mc, .int .i64 s.size]] (w.alloc (.cells #[.slice ma s.marks.length mc, .int .i64 s.size] 91)) fun e w' => e = .returned (.bool (valS s)) ∧ Below (w.alloc (.cells #[.slice ma s.marks.length mc, .int .i64 s.size] 91)).heap.size (w.alloc (.cells #[.slice ma s.marks.length mc, .int .i64 s.size] 91)) w' := valS_any s mc ma _ hn (hI.grown (hB _))
  generalize s.marks.length = m at hn hp ⊢
  generalize s.size = z at hp ⊢
  go_enter Try.func139, Try.ntmps139
  go_wp2_with fail
  refine hp.mono ?_
  rintro e w' ⟨rfl, hb⟩
  go_wp2_with fail
  go_ret
  exact ⟨rfl, (hB _).trans (hb.mono (by simp))⟩

set_option maxRecDepth 100000 in
set_option maxHeartbeats 1000000 in
theorem val_index (T : List Sen) (n cap fb : Nat) (a : Option Addr) (w : World) (hT : T.length = n) (hsm : Small T) (hS : TextAt w a T) (hf : w.cell? ⟨fb, 0, none⟩ = some (.func (.func 131) #[] #[])) :
    Calls Try.prog 140 #[.slice a n cap, .func (.func 139) #[] #[.pointer (some ⟨fb, 0, none⟩)]] w fun e w' => ∃ z : Int, e = .returned (.int .i64 z) ∧ Below w.heap.size w w' ∧ Hid (decide (0 ≤ z) = !T.all valS) := by
  have hn' := hsm.1
  have HT := hid hT
  rw [hT] at hn'
  clear hT
  go_enter Try.func140, Try.ntmps140
  go_wp2_with fail
  go_loopw [8] (fun i wr => ∃ j : Nat, j ≤ n ∧ i = .int .i64 j ∧ Hid (∀ i, i < j → valS (T.getD i default) = true) ∧ Below w.heap.size w wr) (fun i _ => n - (intOf i).toNat)
  case atStart => exact ⟨0, Nat.zero_le _, rfl, hid (fun i hi => by omega), Below.refl _ _⟩
  case round =>
    obtain ⟨j, hj, rfl, HK, hB⟩ := hrel
    by_cases hlt : j < n
    · have hjj : (j : Int) < n := by omega
      obtain ⟨b, off, ma, mc, ea, e1, e2, e3⟩ := hS j (by rw [HT.out]; exact hlt)
      subst ea
      replace e1 := cell_grown hB e1
      replace e2 := cell_grown hB e2
      replace e3 := e3.grown hB
      have gb := lt_of_cell e1
      have hml := hsm.2 _ (sen_mem (T := T) (i := j) (by rw [HT.out]; exact hlt))
      have hcall := val1_any (T.getD j default) mc fb ma wr hml e3 (cell_grown hB hf)
      obtain ⟨r, hr⟩ : ∃ r, valS (T.getD j default) = r := ⟨_, rfl⟩
      rw [hr] at hcall
      have HR := hid hr
      clear hr e3
      generalize (T.getD j default).marks.length = m at e1 hml hcall
      generalize (T.getD j default).size = z at e2 hcall
      go_wp2_with fail
      refine hcall.mono ?_
      cases hv : r
      · rintro e w' ⟨rfl, hb⟩
        have hal : T.all valS = false := allS_false (i := j) (by rw [HT.out]; exact hlt) (by rw [HR.out, hv])
        have HAL := hid hal
        clear hv hal
        go_wp2_with fail
        go_ret
        exact ⟨j, rfl, below_then hB hb, hid (by rw [HAL.out]; simp)⟩
      · rintro e w' ⟨rfl, hb⟩
        have HV : Hid (valS (T.getD j default) = true) := hid (by rw [HR.out, hv])
        clear hv
        go_wp2_with fail
        go_roundw
        case rel => exact ⟨j + 1, by omega, by go_num, hid (fun i hi => by
          by_cases e : i = j
          · subst e; exact HV.out
          · exact HK.out i (by omega)), below_then hB hb⟩
        case measure => simp [intOf]; omega
    · have hjn : j = n := by omega
      subst hjn
      have hal : T.all valS = true := allS_true (fun i hi => HK.out i (by rw [← HT.out]; exact hi))
      have HAL := hid hal
      clear hal
      go_wp2_with fail
      go_ret
      exact ⟨-1, rfl, hB, hid (by rw [HAL.out]; rfl)⟩

set_option maxHeartbeats 400000 in
theorem val_all (T : List Sen) (n cap : Nat) (a : Option Addr) (w : World) (hT : T.length = n) (hsm : Small T) (hS : TextAt w a T) :
    Calls Try.prog 129 #[.slice a n cap, .func (.func 131) #[] #[]] w fun e w' => e = .returned (.bool (T.all valS)) ∧ Below w.heap.size w w' := by
  have hB : Below w.heap.size w (w.alloc (.cells #[.func (.func 131) #[] #[]] 195)) := below_alloc _ _
  have hc : Calls Try.prog 138 #[.slice a n cap, .func (.func 139) #[] #[.pointer (some ⟨w.heap.size, 0, none⟩)]] (w.alloc (.cells #[.func (.func 131) #[] #[]] 195)) fun e w' => e = .returned (.bool (!T.all valS)) ∧ Below (w.alloc (.cells #[.func (.func 131) #[] #[]] 195)).heap.size (w.alloc (.cells #[.func (.func 131) #[] #[]] 195)) w' := by
    have hi := val_index T n cap w.heap.size a _ hT hsm (hS.grown hB) (by simp [go_sem])
    go_enter Try.func138, Try.ntmps138
    go_wp2_with fail
    refine hi.mono ?_
    rintro e w' ⟨z, rfl, hb, hz⟩
    have HZ := hid hz.out
    clear hz
    go_wp2_with fail
    go_ret
    exact ⟨by rw [← HZ.out]; simp, hb⟩
  go_enter Try.func129, Try.ntmps129
  go_wp2_with fail
  refine hc.mono ?_
  rintro e w' ⟨rfl, hb⟩
  go_wp2_with fail
  go_ret
  exact ⟨by simp, hB.trans (hb.mono hB.size)⟩

/-- Has a text not too many sentences, nor one of them too many marks? -/
def limT (T : List Sen) : Bool := decide (T.length ≤ 20) && T.all limS

def valT (T : List Sen) : Bool := T.all valS

set_option maxHeartbeats 400000 in
theorem limited_any (T : List Sen) (n cap : Nat) (a : Option Addr) (w : World) (hT : T.length = n) (hsm : Small T) (hS : TextAt w a T) :
    Calls Try.prog 107 #[.slice a n cap] w fun e w' => e = .returned (.bool (limT T)) ∧ Below w.heap.size w w' := by
  have h129 := lim_all T n cap a w hT hsm hS
  unfold limT
  rw [hT]
  clear hT hsm hS
  by_cases h : n ≤ 20
  · have h' : (n : Int) ≤ 20 := by omega
    go_enter Try.func107, Try.ntmps107
    go_wp2_with (go_at_call 129; refine h129.mono ?_; rintro e w' ⟨rfl, hb⟩)
    go_ret
    exact ⟨by simp [h], hb⟩
  · have h' : ¬ (n : Int) ≤ 20 := by omega
    go_enter Try.func107, Try.ntmps107
    go_wp2_with fail
    go_ret
    exact ⟨by simp [h], Below.refl _ _⟩

set_option maxHeartbeats 400000 in
theorem valid_any (T : List Sen) (n cap : Nat) (a : Option Addr) (w : World) (hT : T.length = n) (hsm : Small T) (hS : TextAt w a T) :
    Calls Try.prog 108 #[.slice a n cap] w fun e w' => e = .returned (.bool (valT T)) ∧ Below w.heap.size w w' := by
  have h129 := val_all T n cap a w hT hsm hS
  unfold valT
  clear hT hsm hS
  go_enter Try.func108, Try.ntmps108
  go_wp2_with (go_at_call 129; refine h129.mono ?_; rintro e w' ⟨rfl, hb⟩)
  go_ret
  exact ⟨rfl, hb⟩

end Go.Proofs.Ytohahlnhbppnhaa
