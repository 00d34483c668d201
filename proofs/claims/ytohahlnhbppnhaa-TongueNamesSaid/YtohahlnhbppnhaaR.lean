/- Tongue: which sentences are valid. Tongue: which texts are valid. Tongue: the error of two texts; what is matched. -/
import Derived.Test.YtohahlnhbppnhaaB
import Derived.Test.YtohahlnhbppnhaaE
namespace Go.Proofs.Ytohahlnhbppnhaa
open Go.RowKit
set_option linter.unusedSimpArgs false
set_option linter.unusedVariables false

/-- Do the numbers rise, at this place, and is this one within bounds? -/
def riseAt (l : List Int) (lo hi : Int) (i : Nat) : Bool := inB (l.getD i 0) lo hi && (decide (i = 0) || decide (l.getD (i - 1) 0 < l.getD i 0))

/-- Numbers that rise, within bounds. -/
def risingM (l : List Int) (lo hi : Int) : Bool := (List.range l.length).all (riseAt l lo hi)

theorem rising_true {l : List Int} {lo hi : Int} (h : ∀ i, i < l.length → riseAt l lo hi i = true) : risingM l lo hi = true := by
  unfold risingM
  rw [List.all_eq_true]
  exact fun i hi => h i (List.mem_range.1 hi)

theorem rising_false {l : List Int} {lo hi : Int} {i : Nat} (hi' : i < l.length) (h : riseAt l lo hi i = false) : risingM l lo hi = false := by
  cases hv : risingM l lo hi
  · rfl
  · unfold risingM at hv
    rw [List.all_eq_true] at hv
    rw [hv i (List.mem_range.2 hi')] at h
    cases h

set_option maxRecDepth 100000 in
set_option maxHeartbeats 1000000 in
theorem rising_any (l : List Int) (lo hi : Int) (n cap : Nat) (a : Option Addr) (w : World) (hl : l.length = n) (hn : n ≤ 1000000) (hS : IntsAt w a l) :
    Calls Try.prog 96 #[.slice a n cap, .int .i64 lo, .int .i64 hi] w fun e w' => e = .returned (.bool (risingM l lo hi)) ∧ Below w.heap.size w w' := by
  have HL := hid hl
  clear hl
  go_enter Try.func96, Try.ntmps96
  go_wp2_with fail
  go_loopw [7, 8, 11] (fun _ _ j wr => ∃ m : Nat, m ≤ n ∧ j = .int .i64 m ∧ Hid (∀ i, i < m → riseAt l lo hi i = true) ∧ Below w.heap.size w wr) (fun _ _ j _ => n - (intOf j).toNat)
  case atStart => exact ⟨0, Nat.zero_le _, rfl, hid (fun i hi => by omega), Below.refl _ _⟩
  case round =>
    obtain ⟨m, hm, rfl, HK, hB⟩ := hrel
    by_cases hlt : m < n
    · have hlt' : (m : Int) < n := by omega
      obtain ⟨b, off, ea, e1⟩ := hS m (by rw [HL.out]; exact hlt)
      subst ea
      replace e1 := cell_grown hB e1
      have gb := lt_of_cell e1
      have hwi := fun W => within_any (l.getD m 0) lo hi W
      cases hin : inB (l.getD m 0) lo hi
      · have hf : risingM l lo hi = false := rising_false (i := m) (by rw [HL.out]; exact hlt) (by unfold riseAt; rw [hin]; rfl)
        rw [hin] at hwi
        have HF := hid hf
        clear hf hin
        generalize l.getD m 0 = x at e1 hwi
        go_wp2_with (go_at_call 69; refine (hwi _).mono ?_; rintro e w' ⟨rfl, rfl⟩)
        go_ret
        exact ⟨by rw [HF.out]; rfl, hB⟩
      · rw [hin] at hwi
        by_cases h0 : m = 0
        · have hr : riseAt l lo hi m = true := by unfold riseAt; rw [hin, h0]; rfl
          have HR : Hid (∀ i, i < m + 1 → riseAt l lo hi i = true) := hid (fun i hi => by
            by_cases e : i = m
            · rw [e]; exact hr
            · exact HK.out i (by omega))
          clear hr hin
          generalize l.getD m 0 = x at e1 hwi
          have hm0 : ¬ (0 : Int) < (m : Int) := by omega
          clear h0
          go_wp2_with (go_at_call 69; refine (hwi _).mono ?_; rintro e w' ⟨rfl, rfl⟩)
          go_roundw
          case rel => exact ⟨m + 1, by omega, by go_num, HR, hB⟩
          case measure => simp [intOf]; omega
        · obtain ⟨q, rfl⟩ : ∃ q, m = q + 1 := ⟨m - 1, by omega⟩
          obtain ⟨b', off', ea, e2⟩ := hS q (by rw [HL.out]; omega)
          cases ea
          replace e2 := cell_grown hB e2
          have hq0 : (0 : Int) < ((q + 1 : Nat) : Int) := by omega
          have hqe : ((q + 1 : Nat) : Int) - 1 = (q : Int) := by omega
          have hqn : q < n := by omega
          by_cases hlt2 : l.getD q 0 < l.getD (q + 1) 0
          · have hr : riseAt l lo hi (q + 1) = true := by unfold riseAt; rw [hin]; simp only [Nat.add_sub_cancel, Bool.true_and, Bool.or_eq_true, decide_eq_true_eq]; exact .inr hlt2
            have HR : Hid (∀ i, i < q + 1 + 1 → riseAt l lo hi i = true) := hid (fun i hi => by
              by_cases e : i = q + 1
              · rw [e]; exact hr
              · exact HK.out i (by omega))
            clear hr hin
            generalize l.getD (q + 1) 0 = x at e1 hwi hlt2
            generalize l.getD q 0 = y at e2 hlt2
            have hge : ¬ x ≤ y := by omega
            go_wp2_with (go_at_call 69; refine (hwi _).mono ?_; rintro e w' ⟨rfl, rfl⟩)
            go_roundw
            case rel => exact ⟨q + 1 + 1, by omega, by go_num, HR, hB⟩
            case measure => simp [intOf]; omega
          · have hf : risingM l lo hi = false := rising_false (i := q + 1) (by rw [HL.out]; exact hlt) (by
              unfold riseAt
              rw [hin]
              simp only [Nat.add_sub_cancel, Bool.true_and, Bool.or_eq_false_iff, decide_eq_false_iff_not]
              exact ⟨by omega, hlt2⟩)
            have HF := hid hf
            clear hf hin
            generalize l.getD (q + 1) 0 = x at e1 hwi hlt2
            generalize l.getD q 0 = y at e2 hlt2
            have hge : x ≤ y := by omega
            go_wp2_with (go_at_call 69; refine (hwi _).mono ?_; rintro e w' ⟨rfl, rfl⟩)
            go_ret
            exact ⟨by rw [HF.out]; rfl, hB⟩
    · have hmn : m = n := by omega
      subst hmn
      have hr : risingM l lo hi = true := rising_true (fun i hi => HK.out i (by rw [← HL.out]; exact hi))
      have HR := hid hr
      clear hr
      go_wp2_with fail
      go_ret
      exact ⟨by rw [HR.out]; rfl, hB⟩

/-- Has a sentence not too many marks? -/
def limS (s : Sen) : Bool := decide (s.marks.length ≤ 12)

/-- Is a sentence as it has to be? -/
def valS (s : Sen) : Bool := risingM s.marks 0 999 && inB s.size 1 200

set_option maxHeartbeats 400000 in
theorem limS_any (s : Sen) (mc : Nat) (ma : Option Addr) (w : World) (hn : s.marks.length ≤ 1000000) :
    Calls Try.prog 130 #[.agg #[.slice ma s.marks.length mc, .int .i64 s.size]] w fun e w' => e = .returned (.bool (limS s)) ∧ Below w.heap.size w w' := by
  unfold limS
  generalize s.marks.length = m at hn ⊢
  generalize s.size = z
  by_cases h : m ≤ 12
  · have h' : (m : Int) ≤ 12 := by omega
    go_enter Try.func130, Try.ntmps130
    go_wp2_with fail
    go_ret
    exact ⟨by simp [h], below_alloc _ _⟩
  · have h' : ¬ (m : Int) ≤ 12 := by omega
    go_enter Try.func130, Try.ntmps130
    go_wp2_with fail
    go_ret
    exact ⟨by simp [h], below_alloc _ _⟩

set_option maxHeartbeats 400000 in
theorem valS_any (s : Sen) (mc : Nat) (ma : Option Addr) (w : World) (hn : s.marks.length ≤ 1000000) (hS : IntsAt w ma s.marks) :
    Calls Try.prog 131 #[.agg #[.slice ma s.marks.length mc, .int .i64 s.size]] w fun e w' => e = .returned (.bool (valS s)) ∧ Below w.heap.size w w' := by
  have hb0 := below_alloc w (.cells #[.slice ma s.marks.length mc, .int .i64 s.size] 91)
  have hr : ∀ W, Below w.heap.size w W → Calls Try.prog 96 #[.slice ma s.marks.length mc, .int .i64 0, .int .i64 999] W fun e w' => e = .returned (.bool (risingM s.marks 0 999)) ∧ Below W.heap.size W w' := fun W hW => rising_any s.marks 0 999 _ mc ma W rfl hn (hS.grown hW)
  unfold valS
  generalize s.marks.length = m at hn hr hb0 ⊢
  generalize s.size = z at hb0 ⊢
  cases h : risingM s.marks 0 999
  · rw [h] at hr
    go_enter Try.func131, Try.ntmps131
    go_wp2_with (go_at_call 96; refine (hr _ hb0).mono ?_; rintro e w1 ⟨rfl, hb1⟩)
    go_ret
    exact ⟨rfl, below_then hb0 hb1⟩
  · rw [h] at hr
    have c1 : (w.alloc (.cells #[.slice ma m mc, .int .i64 z] 91)).cell? ⟨w.heap.size, 1, none⟩ = some (.int .i64 z) := by simp
    go_enter Try.func131, Try.ntmps131
    go_wp2_with (first | (go_at_call 96; refine (hr _ hb0).mono ?_; rintro e w1 ⟨rfl, hb1⟩; replace c1 := cell_grown hb1 c1; have g1 := lt_of_cell c1) | (go_at_call 69; refine (within_any z 1 200 _).mono ?_; rintro e w' ⟨rfl, rfl⟩))
    go_ret
    exact ⟨by simp, below_then hb0 hb1⟩

end Go.Proofs.Ytohahlnhbppnhaa

namespace Go.Proofs.Ytohahlnhbppnhaa
open Go.RowKit
set_option linter.unusedSimpArgs false
set_option linter.unusedVariables false

/-- No sentence has more marks than a slice may have here. -/
def Small (T : List Sen) : Prop := T.length ≤ 1000000 ∧ ∀ s ∈ T, s.marks.length ≤ 1000000

theorem sen_mem {T : List Sen} {i : Nat} (h : i < T.length) : T.getD i default ∈ T := by
  rw [List.getD_eq_getElem?_getD, List.getElem?_eq_getElem h]
  exact List.getElem_mem _

theorem allS_true {p : Sen → Bool} {T : List Sen} (h : ∀ i, i < T.length → p (T.getD i default) = true) : T.all p = true := by
  rw [List.all_eq_true]
  intro x hx
  obtain ⟨i, hi, rfl⟩ := List.mem_iff_getElem.1 hx
  have := h i hi
  rwa [List.getD_eq_getElem?_getD, List.getElem?_eq_getElem hi, Option.getD_some] at this

theorem allS_false {p : Sen → Bool} {T : List Sen} {i : Nat} (hi : i < T.length) (h : p (T.getD i default) = false) : T.all p = false := by
  cases hv : T.all p
  · rfl
  · rw [List.all_eq_true] at hv
    rw [hv _ (sen_mem hi)] at h
    cases h

set_option maxHeartbeats 400000 in
theorem lim1_any (s : Sen) (mc fb : Nat) (ma : Option Addr) (w : World) (hn : s.marks.length ≤ 1000000) (hI : IntsAt w ma s.marks) (hf : w.cell? ⟨fb, 0, none⟩ = some (.func (.func 130) #[] #[])) :
    Calls Try.prog 139 #[.agg #[.slice ma s.marks.length mc, .int .i64 s.size], .pointer (some ⟨fb, 0, none⟩)] w fun e w' => e = .returned (.bool (!limS s)) ∧ Below w.heap.size w w' := by
  have hfb := lt_of_cell hf
  have hB : ∀ o, Below w.heap.size w (w.alloc o) := fun o => below_alloc w o
  have hp : Calls Try.prog 130 #[.agg #[.slice ma s.marks.length mc, .int .i64 s.size]] (w.alloc (.cells #[.slice ma s.marks.length mc, .int .i64 s.size] 91)) fun e w' => e = .returned (.bool (limS s)) ∧ Below (w.alloc (.cells #[.slice ma s.marks.length mc, .int .i64 s.size] 91)).heap.size (w.alloc (.cells #[.slice ma s.marks.length mc, .int .i64 s.size] 91)) w' := limS_any s mc ma _ hn
  generalize s.marks.length = m at hn hp ⊢
  generalize s.size = z at hp ⊢
  go_enter Try.func139, Try.ntmps139
  go_wp2_with fail
  refine hp.mono ?_
  rintro e w' ⟨rfl, hb⟩
  go_wp2_with fail
  go_ret
  exact ⟨rfl, (hB _).trans (hb.mono (by simp))⟩

set_option maxRecDepth 100000 in
set_option maxHeartbeats 1000000 in
theorem lim_index (T : List Sen) (n cap fb : Nat) (a : Option Addr) (w : World) (hT : T.length = n) (hsm : Small T) (hS : TextAt w a T) (hf : w.cell? ⟨fb, 0, none⟩ = some (.func (.func 130) #[] #[])) :
    Calls Try.prog 140 #[.slice a n cap, .func (.func 139) #[] #[.pointer (some ⟨fb, 0, none⟩)]] w fun e w' => ∃ z : Int, e = .returned (.int .i64 z) ∧ Below w.heap.size w w' ∧ Hid (decide (0 ≤ z) = !T.all limS) := by
  have hn' := hsm.1
  have HT := hid hT
  rw [hT] at hn'
  clear hT
  go_enter Try.func140, Try.ntmps140
  go_wp2_with fail
  go_loopw [8] (fun i wr => ∃ j : Nat, j ≤ n ∧ i = .int .i64 j ∧ Hid (∀ i, i < j → limS (T.getD i default) = true) ∧ Below w.heap.size w wr) (fun i _ => n - (intOf i).toNat)
  case atStart => exact ⟨0, Nat.zero_le _, rfl, hid (fun i hi => by omega), Below.refl _ _⟩
  case round =>
    obtain ⟨j, hj, rfl, HK, hB⟩ := hrel
    by_cases hlt : j < n
    · have hjj : (j : Int) < n := by omega
      obtain ⟨b, off, ma, mc, ea, e1, e2, e3⟩ := hS j (by rw [HT.out]; exact hlt)
      subst ea
      replace e1 := cell_grown hB e1
      replace e2 := cell_grown hB e2
      replace e3 := e3.grown hB
      have gb := lt_of_cell e1
      have hml := hsm.2 _ (sen_mem (T := T) (i := j) (by rw [HT.out]; exact hlt))
      have hcall := lim1_any (T.getD j default) mc fb ma wr hml e3 (cell_grown hB hf)
      obtain ⟨r, hr⟩ : ∃ r, limS (T.getD j default) = r := ⟨_, rfl⟩
      rw [hr] at hcall
      have HR := hid hr
      clear hr e3
      generalize (T.getD j default).marks.length = m at e1 hml hcall
      generalize (T.getD j default).size = z at e2 hcall
      go_wp2_with fail
      refine hcall.mono ?_
      cases hv : r
      · rintro e w' ⟨rfl, hb⟩
        have hal : T.all limS = false := allS_false (i := j) (by rw [HT.out]; exact hlt) (by rw [HR.out, hv])
        have HAL := hid hal
        clear hv hal
        go_wp2_with fail
        go_ret
        exact ⟨j, rfl, below_then hB hb, hid (by rw [HAL.out]; simp)⟩
      · rintro e w' ⟨rfl, hb⟩
        have HV : Hid (limS (T.getD j default) = true) := hid (by rw [HR.out, hv])
        clear hv
        go_wp2_with fail
        go_roundw
        case rel => exact ⟨j + 1, by omega, by go_num, hid (fun i hi => by
          by_cases e : i = j
          · subst e; exact HV.out
          · exact HK.out i (by omega)), below_then hB hb⟩
        case measure => simp [intOf]; omega
    · have hjn : j = n := by omega
      subst hjn
      have hal : T.all limS = true := allS_true (fun i hi => HK.out i (by rw [← HT.out]; exact hi))
      have HAL := hid hal
      clear hal
      go_wp2_with fail
      go_ret
      exact ⟨-1, rfl, hB, hid (by rw [HAL.out]; rfl)⟩

set_option maxHeartbeats 400000 in
theorem lim_all (T : List Sen) (n cap : Nat) (a : Option Addr) (w : World) (hT : T.length = n) (hsm : Small T) (hS : TextAt w a T) :
    Calls Try.prog 129 #[.slice a n cap, .func (.func 130) #[] #[]] w fun e w' => e = .returned (.bool (T.all limS)) ∧ Below w.heap.size w w' := by
  have hB : Below w.heap.size w (w.alloc (.cells #[.func (.func 130) #[] #[]] 195)) := below_alloc _ _
  have hc : Calls Try.prog 138 #[.slice a n cap, .func (.func 139) #[] #[.pointer (some ⟨w.heap.size, 0, none⟩)]] (w.alloc (.cells #[.func (.func 130) #[] #[]] 195)) fun e w' => e = .returned (.bool (!T.all limS)) ∧ Below (w.alloc (.cells #[.func (.func 130) #[] #[]] 195)).heap.size (w.alloc (.cells #[.func (.func 130) #[] #[]] 195)) w' := by
    have hi := lim_index T n cap w.heap.size a _ hT hsm (hS.grown hB) (by simp [go_sem])
    go_enter Try.func138, Try.ntmps138
    go_wp2_with fail
    refine hi.mono ?_
    rintro e w' ⟨z, rfl, hb, hz⟩
    have HZ := hid hz.out
    clear hz
    go_wp2_with fail
    go_ret
    exact ⟨by rw [← HZ.out]; simp, hb⟩
  go_enter Try.func129, Try.ntmps129
  go_wp2_with fail
  refine hc.mono ?_
  rintro e w' ⟨rfl, hb⟩
  go_wp2_with fail
  go_ret
  exact ⟨by simp, hB.trans (hb.mono hB.size)⟩

set_option maxHeartbeats 400000 in
theorem val1_any (s : Sen) (mc fb : Nat) (ma : Option Addr) (w : World) (hn : s.marks.length ≤ 1000000) (hI : IntsAt w ma s.marks) (hf : w.cell? ⟨fb, 0, none⟩ = some (.func (.func 131) #[] #[])) :
    Calls Try.prog 139 #[.agg #[.slice ma s.marks.length mc, .int .i64 s.size], .pointer (some ⟨fb, 0, none⟩)] w fun e w' => e = .returned (.bool (!valS s)) ∧ Below w.heap.size w w' := by
  have hfb := lt_of_cell hf
  have hB : ∀ o, Below w.heap.size w (w.alloc o) := fun o => below_alloc w o
  have hp : Calls Try.prog 131 #[.agg #[.slice ma s.marks.length mc, .int .i64 s.size]] (w.alloc (.cells #[.slice ma s.marks.length mc, .int .i64 s.size] 91)) fun e w' => e = .returned (.bool (valS s)) ∧ Below (w.alloc (.cells #[.slice ma s.marks.length mc, .int .i64 s.size] 91)).heap.size (w.alloc (.cells #[.slice ma s.marks.length mc, .int .i64 s.size] 91)) w' := valS_any s mc ma _ hn (hI.grown (hB _))
  generalize s.marks.length = m at hn hp ⊢
  generalize s.size = z at hp ⊢
  go_enter Try.func139, Try.ntmps139
  go_wp2_with fail
  refine hp.mono ?_
  rintro e w' ⟨rfl, hb⟩
  go_wp2_with fail
  go_ret
  exact ⟨rfl, (hB _).trans (hb.mono (by simp))⟩

set_option maxRecDepth 100000 in
set_option maxHeartbeats 1000000 in
theorem val_index (T : List Sen) (n cap fb : Nat) (a : Option Addr) (w : World) (hT : T.length = n) (hsm : Small T) (hS : TextAt w a T) (hf : w.cell? ⟨fb, 0, none⟩ = some (.func (.func 131) #[] #[])) :
    Calls Try.prog 140 #[.slice a n cap, .func (.func 139) #[] #[.pointer (some ⟨fb, 0, none⟩)]] w fun e w' => ∃ z : Int, e = .returned (.int .i64 z) ∧ Below w.heap.size w w' ∧ Hid (decide (0 ≤ z) = !T.all valS) := by
  have hn' := hsm.1
  have HT := hid hT
  rw [hT] at hn'
  clear hT
  go_enter Try.func140, Try.ntmps140
  go_wp2_with fail
  go_loopw [8] (fun i wr => ∃ j : Nat, j ≤ n ∧ i = .int .i64 j ∧ Hid (∀ i, i < j → valS (T.getD i default) = true) ∧ Below w.heap.size w wr) (fun i _ => n - (intOf i).toNat)
  case atStart => exact ⟨0, Nat.zero_le _, rfl, hid (fun i hi => by omega), Below.refl _ _⟩
  case round =>
    obtain ⟨j, hj, rfl, HK, hB⟩ := hrel
    by_cases hlt : j < n
    · have hjj : (j : Int) < n := by omega
      obtain ⟨b, off, ma, mc, ea, e1, e2, e3⟩ := hS j (by rw [HT.out]; exact hlt)
      subst ea
      replace e1 := cell_grown hB e1
      replace e2 := cell_grown hB e2
      replace e3 := e3.grown hB
      have gb := lt_of_cell e1
      have hml := hsm.2 _ (sen_mem (T := T) (i := j) (by rw [HT.out]; exact hlt))
      have hcall := val1_any (T.getD j default) mc fb ma wr hml e3 (cell_grown hB hf)
      obtain ⟨r, hr⟩ : ∃ r, valS (T.getD j default) = r := ⟨_, rfl⟩
      rw [hr] at hcall
      have HR := hid hr
      clear hr e3
      generalize (T.getD j default).marks.length = m at e1 hml hcall
      generalize (T.getD j default).size = z at e2 hcall
      go_wp2_with fail
      refine hcall.mono ?_
      cases hv : r
      · rintro e w' ⟨rfl, hb⟩
        have hal : T.all valS = false := allS_false (i := j) (by rw [HT.out]; exact hlt) (by rw [HR.out, hv])
        have HAL := hid hal
        clear hv hal
        go_wp2_with fail
        go_ret
        exact ⟨j, rfl, below_then hB hb, hid (by rw [HAL.out]; simp)⟩
      · rintro e w' ⟨rfl, hb⟩
        have HV : Hid (valS (T.getD j default) = true) := hid (by rw [HR.out, hv])
        clear hv
        go_wp2_with fail
        go_roundw
        case rel => exact ⟨j + 1, by omega, by go_num, hid (fun i hi => by
          by_cases e : i = j
          · subst e; exact HV.out
          · exact HK.out i (by omega)), below_then hB hb⟩
        case measure => simp [intOf]; omega
    · have hjn : j = n := by omega
      subst hjn
      have hal : T.all valS = true := allS_true (fun i hi => HK.out i (by rw [← HT.out]; exact hi))
      have HAL := hid hal
      clear hal
      go_wp2_with fail
      go_ret
      exact ⟨-1, rfl, hB, hid (by rw [HAL.out]; rfl)⟩

set_option maxHeartbeats 400000 in
theorem val_all (T : List Sen) (n cap : Nat) (a : Option Addr) (w : World) (hT : T.length = n) (hsm : Small T) (hS : TextAt w a T) :
    Calls Try.prog 129 #[.slice a n cap, .func (.func 131) #[] #[]] w fun e w' => e = .returned (.bool (T.all valS)) ∧ Below w.heap.size w w' := by
  have hB : Below w.heap.size w (w.alloc (.cells #[.func (.func 131) #[] #[]] 195)) := below_alloc _ _
  have hc : Calls Try.prog 138 #[.slice a n cap, .func (.func 139) #[] #[.pointer (some ⟨w.heap.size, 0, none⟩)]] (w.alloc (.cells #[.func (.func 131) #[] #[]] 195)) fun e w' => e = .returned (.bool (!T.all valS)) ∧ Below (w.alloc (.cells #[.func (.func 131) #[] #[]] 195)).heap.size (w.alloc (.cells #[.func (.func 131) #[] #[]] 195)) w' := by
    have hi := val_index T n cap w.heap.size a _ hT hsm (hS.grown hB) (by simp [go_sem])
    go_enter Try.func138, Try.ntmps138
    go_wp2_with fail
    refine hi.mono ?_
    rintro e w' ⟨z, rfl, hb, hz⟩
    have HZ := hid hz.out
    clear hz
    go_wp2_with fail
    go_ret
    exact ⟨by rw [← HZ.out]; simp, hb⟩
  go_enter Try.func129, Try.ntmps129
  go_wp2_with fail
  refine hc.mono ?_
  rintro e w' ⟨rfl, hb⟩
  go_wp2_with fail
  go_ret
  exact ⟨by simp, hB.trans (hb.mono hB.size)⟩

/-- Has a text not too many sentences, nor one of them too many marks? -/
def limT (T : List Sen) : Bool := decide (T.length ≤ 20) && T.all limS

def valT (T : List Sen) : Bool := T.all valS

set_option maxHeartbeats 400000 in
theorem limited_any (T : List Sen) (n cap : Nat) (a : Option Addr) (w : World) (hT : T.length = n) (hsm : Small T) (hS : TextAt w a T) :
    Calls Try.prog 107 #[.slice a n cap] w fun e w' => e = .returned (.bool (limT T)) ∧ Below w.heap.size w w' := by
  have h129 := lim_all T n cap a w hT hsm hS
  unfold limT
  rw [hT]
  clear hT hsm hS
  by_cases h : n ≤ 20
  · have h' : (n : Int) ≤ 20 := by omega
    go_enter Try.func107, Try.ntmps107
    go_wp2_with (go_at_call 129; refine h129.mono ?_; rintro e w' ⟨rfl, hb⟩)
    go_ret
    exact ⟨by simp [h], hb⟩
  · have h' : ¬ (n : Int) ≤ 20 := by omega
    go_enter Try.func107, Try.ntmps107
    go_wp2_with fail
    go_ret
    exact ⟨by simp [h], Below.refl _ _⟩

set_option maxHeartbeats 400000 in
theorem valid_any (T : List Sen) (n cap : Nat) (a : Option Addr) (w : World) (hT : T.length = n) (hsm : Small T) (hS : TextAt w a T) :
    Calls Try.prog 108 #[.slice a n cap] w fun e w' => e = .returned (.bool (valT T)) ∧ Below w.heap.size w w' := by
  have h129 := val_all T n cap a w hT hsm hS
  unfold valT
  clear hT hsm hS
  go_enter Try.func108, Try.ntmps108
  go_wp2_with (go_at_call 129; refine h129.mono ?_; rintro e w' ⟨rfl, hb⟩)
  go_ret
  exact ⟨rfl, hb⟩

end Go.Proofs.Ytohahlnhbppnhaa

namespace Go.Proofs.Ytohahlnhbppnhaa
open Go.RowKit
set_option linter.unusedSimpArgs false
set_option linter.unusedVariables false

set_option maxHeartbeats 400000 in
theorem limT1_any (T : List Sen) (n cap fb : Nat) (a : Option Addr) (w : World) (hT : T.length = n) (hsm : Small T) (hS : TextAt w a T) (hf : w.cell? ⟨fb, 0, none⟩ = some (.func (.func 107) #[] #[])) :
    Calls Try.prog 128 #[.slice a n cap, .pointer (some ⟨fb, 0, none⟩)] w fun e w' => e = .returned (.bool (!limT T)) ∧ Below w.heap.size w w' := by
  have hfb := lt_of_cell hf
  have hp := limited_any T n cap a w hT hsm hS
  clear hT
  go_enter Try.func128, Try.ntmps128
  go_wp2_with fail
  refine hp.mono ?_
  rintro e w' ⟨rfl, hb⟩
  go_wp2_with fail
  go_ret
  exact ⟨rfl, hb⟩

set_option maxRecDepth 100000 in
set_option maxHeartbeats 1000000 in
theorem limT_index (L R : List Sen) (nl cl nr cr : Nat) (la ra : Option Addr) (w : World) (hL : L.length = nl) (hR : R.length = nr) (sL : Small L) (sR : Small R) (hS : TextAt w la L) (hT : TextAt w ra R) (b fb : Nat) (e0 : w.cell? ⟨b, 0, none⟩ = some (.slice la nl cl)) (e1 : w.cell? ⟨b, 1, none⟩ = some (.slice ra nr cr)) (hf : w.cell? ⟨fb, 0, none⟩ = some (.func (.func 107) #[] #[])) :
    Calls Try.prog 137 #[.slice (some ⟨b, 0, none⟩) 2 2, .func (.func 128) #[] #[.pointer (some ⟨fb, 0, none⟩)]] w fun e w' => ∃ z : Int, e = .returned (.int .i64 z) ∧ Below w.heap.size w w' ∧ Hid (decide (0 ≤ z) = !(limT L && limT R)) := by
  go_enter Try.func137, Try.ntmps137
  go_wp2_with fail
  go_loopw [8] (fun i wr => ∃ j : Nat, j ≤ 2 ∧ i = .int .i64 j ∧ Hid ((0 < j → limT L = true) ∧ (1 < j → limT R = true)) ∧ Below w.heap.size w wr) (fun i _ => 2 - (intOf i).toNat)
  case atStart => exact ⟨0, Nat.zero_le _, rfl, hid ⟨fun h => by omega, fun h => by omega⟩, Below.refl _ _⟩
  case round =>
    obtain ⟨j, hj, rfl, HK, hB⟩ := hrel
    have q0 := cell_grown hB e0
    have q1 := cell_grown hB e1
    have gb := lt_of_cell q0
    have hj' : j = 0 ∨ j = 1 ∨ j = 2 := by omega
    rcases hj' with rfl | rfl | rfl
    · have hcall := limT1_any L nl cl fb la wr hL sL (hS.grown hB) (cell_grown hB hf)
      obtain ⟨r, hr⟩ : ∃ r, limT L = r := ⟨_, rfl⟩
      rw [hr] at hcall
      have HR := hid hr
      clear hr
      go_wp2_with fail
      refine hcall.mono ?_
      cases hv : r
      · rintro e w' ⟨rfl, hb⟩
        have HAL : Hid ((limT L && limT R) = false) := hid (by rw [HR.out, hv]; simp)
        clear hv
        go_wp2_with fail
        go_ret
        exact ⟨0, rfl, below_then hB hb, hid (by rw [HAL.out]; simp)⟩
      · rintro e w' ⟨rfl, hb⟩
        have HV : Hid (limT L = true) := hid (by rw [HR.out, hv])
        clear hv
        go_wp2_with fail
        go_roundw
        case rel => exact ⟨1, by omega, by go_num, hid ⟨fun _ => HV.out, fun h => by omega⟩, below_then hB hb⟩
        case measure => simp [intOf]
    · have hcall := limT1_any R nr cr fb ra wr hR sR (hT.grown hB) (cell_grown hB hf)
      obtain ⟨r, hr⟩ : ∃ r, limT R = r := ⟨_, rfl⟩
      rw [hr] at hcall
      have HR := hid hr
      clear hr
      go_wp2_with fail
      refine hcall.mono ?_
      cases hv : r
      · rintro e w' ⟨rfl, hb⟩
        have HAL : Hid ((limT L && limT R) = false) := hid (by rw [HR.out, hv]; simp)
        clear hv
        go_wp2_with fail
        go_ret
        exact ⟨1, rfl, below_then hB hb, hid (by rw [HAL.out]; simp)⟩
      · rintro e w' ⟨rfl, hb⟩
        have HV : Hid (limT R = true) := hid (by rw [HR.out, hv])
        clear hv
        go_wp2_with fail
        go_roundw
        case rel => exact ⟨2, by omega, by go_num, hid ⟨fun _ => HK.out.1 (by omega), fun _ => HV.out⟩, below_then hB hb⟩
        case measure => simp [intOf]
    · have HAL : Hid ((limT L && limT R) = true) := hid (by rw [HK.out.1 (by omega), HK.out.2 (by omega)]; rfl)
      go_wp2_with fail
      go_ret
      exact ⟨-1, rfl, hB, hid (by rw [HAL.out]; rfl)⟩

set_option maxHeartbeats 400000 in
theorem limT_all (L R : List Sen) (nl cl nr cr : Nat) (la ra : Option Addr) (w : World) (hL : L.length = nl) (hR : R.length = nr) (sL : Small L) (sR : Small R) (hS : TextAt w la L) (hT : TextAt w ra R) (b : Nat) (e0 : w.cell? ⟨b, 0, none⟩ = some (.slice la nl cl)) (e1 : w.cell? ⟨b, 1, none⟩ = some (.slice ra nr cr)) :
    Calls Try.prog 106 #[.slice (some ⟨b, 0, none⟩) 2 2, .func (.func 107) #[] #[]] w fun e w' => e = .returned (.bool (limT L && limT R)) ∧ Below w.heap.size w w' := by
  have hB : Below w.heap.size w (w.alloc (.cells #[.func (.func 107) #[] #[]] 178)) := below_alloc _ _
  have hc : Calls Try.prog 127 #[.slice (some ⟨b, 0, none⟩) 2 2, .func (.func 128) #[] #[.pointer (some ⟨w.heap.size, 0, none⟩)]] (w.alloc (.cells #[.func (.func 107) #[] #[]] 178)) fun e w' => e = .returned (.bool (!(limT L && limT R))) ∧ Below (w.alloc (.cells #[.func (.func 107) #[] #[]] 178)).heap.size (w.alloc (.cells #[.func (.func 107) #[] #[]] 178)) w' := by
    have hi := limT_index L R nl cl nr cr la ra _ hL hR sL sR (hS.grown hB) (hT.grown hB) b w.heap.size (cell_grown hB e0) (cell_grown hB e1) (by simp [go_sem])
    go_enter Try.func127, Try.ntmps127
    go_wp2_with fail
    refine hi.mono ?_
    rintro e w' ⟨z, rfl, hb, hz⟩
    have HZ := hid hz.out
    clear hz
    go_wp2_with fail
    go_ret
    exact ⟨by rw [← HZ.out]; simp, hb⟩
  go_enter Try.func106, Try.ntmps106
  go_wp2_with fail
  refine hc.mono ?_
  rintro e w' ⟨rfl, hb⟩
  go_wp2_with fail
  go_ret
  exact ⟨by simp, hB.trans (hb.mono hB.size)⟩

set_option maxHeartbeats 400000 in
theorem valT1_any (T : List Sen) (n cap fb : Nat) (a : Option Addr) (w : World) (hT : T.length = n) (hsm : Small T) (hS : TextAt w a T) (hf : w.cell? ⟨fb, 0, none⟩ = some (.func (.func 108) #[] #[])) :
    Calls Try.prog 128 #[.slice a n cap, .pointer (some ⟨fb, 0, none⟩)] w fun e w' => e = .returned (.bool (!valT T)) ∧ Below w.heap.size w w' := by
  have hfb := lt_of_cell hf
  have hp := valid_any T n cap a w hT hsm hS
  clear hT
  go_enter Try.func128, Try.ntmps128
  go_wp2_with fail
  refine hp.mono ?_
  rintro e w' ⟨rfl, hb⟩
  go_wp2_with fail
  go_ret
  exact ⟨rfl, hb⟩

set_option maxRecDepth 100000 in
set_option maxHeartbeats 1000000 in
theorem valT_index (L R : List Sen) (nl cl nr cr : Nat) (la ra : Option Addr) (w : World) (hL : L.length = nl) (hR : R.length = nr) (sL : Small L) (sR : Small R) (hS : TextAt w la L) (hT : TextAt w ra R) (b fb : Nat) (e0 : w.cell? ⟨b, 0, none⟩ = some (.slice la nl cl)) (e1 : w.cell? ⟨b, 1, none⟩ = some (.slice ra nr cr)) (hf : w.cell? ⟨fb, 0, none⟩ = some (.func (.func 108) #[] #[])) :
    Calls Try.prog 137 #[.slice (some ⟨b, 0, none⟩) 2 2, .func (.func 128) #[] #[.pointer (some ⟨fb, 0, none⟩)]] w fun e w' => ∃ z : Int, e = .returned (.int .i64 z) ∧ Below w.heap.size w w' ∧ Hid (decide (0 ≤ z) = !(valT L && valT R)) := by
  go_enter Try.func137, Try.ntmps137
  go_wp2_with fail
  go_loopw [8] (fun i wr => ∃ j : Nat, j ≤ 2 ∧ i = .int .i64 j ∧ Hid ((0 < j → valT L = true) ∧ (1 < j → valT R = true)) ∧ Below w.heap.size w wr) (fun i _ => 2 - (intOf i).toNat)
  case atStart => exact ⟨0, Nat.zero_le _, rfl, hid ⟨fun h => by omega, fun h => by omega⟩, Below.refl _ _⟩
  case round =>
    obtain ⟨j, hj, rfl, HK, hB⟩ := hrel
    have q0 := cell_grown hB e0
    have q1 := cell_grown hB e1
    have gb := lt_of_cell q0
    have hj' : j = 0 ∨ j = 1 ∨ j = 2 := by omega
    rcases hj' with rfl | rfl | rfl
    · have hcall := valT1_any L nl cl fb la wr hL sL (hS.grown hB) (cell_grown hB hf)
      obtain ⟨r, hr⟩ : ∃ r, valT L = r := ⟨_, rfl⟩
      rw [hr] at hcall
      have HR := hid hr
      clear hr
      go_wp2_with fail
      refine hcall.mono ?_
      cases hv : r
      · rintro e w' ⟨rfl, hb⟩
        have HAL : Hid ((valT L && valT R) = false) := hid (by rw [HR.out, hv]; simp)
        clear hv
        go_wp2_with fail
        go_ret
        exact ⟨0, rfl, below_then hB hb, hid (by rw [HAL.out]; simp)⟩
      · rintro e w' ⟨rfl, hb⟩
        have HV : Hid (valT L = true) := hid (by rw [HR.out, hv])
        clear hv
        go_wp2_with fail
        go_roundw
        case rel => exact ⟨1, by omega, by go_num, hid ⟨fun _ => HV.out, fun h => by omega⟩, below_then hB hb⟩
        case measure => simp [intOf]
    · have hcall := valT1_any R nr cr fb ra wr hR sR (hT.grown hB) (cell_grown hB hf)
      obtain ⟨r, hr⟩ : ∃ r, valT R = r := ⟨_, rfl⟩
      rw [hr] at hcall
      have HR := hid hr
      clear hr
      go_wp2_with fail
      refine hcall.mono ?_
      cases hv : r
      · rintro e w' ⟨rfl, hb⟩
        have HAL : Hid ((valT L && valT R) = false) := hid (by rw [HR.out, hv]; simp)
        clear hv
        go_wp2_with fail
        go_ret
        exact ⟨1, rfl, below_then hB hb, hid (by rw [HAL.out]; simp)⟩
      · rintro e w' ⟨rfl, hb⟩
        have HV : Hid (valT R = true) := hid (by rw [HR.out, hv])
        clear hv
        go_wp2_with fail
        go_roundw
        case rel => exact ⟨2, by omega, by go_num, hid ⟨fun _ => HK.out.1 (by omega), fun _ => HV.out⟩, below_then hB hb⟩
        case measure => simp [intOf]
    · have HAL : Hid ((valT L && valT R) = true) := hid (by rw [HK.out.1 (by omega), HK.out.2 (by omega)]; rfl)
      go_wp2_with fail
      go_ret
      exact ⟨-1, rfl, hB, hid (by rw [HAL.out]; rfl)⟩

set_option maxHeartbeats 400000 in
theorem valT_all (L R : List Sen) (nl cl nr cr : Nat) (la ra : Option Addr) (w : World) (hL : L.length = nl) (hR : R.length = nr) (sL : Small L) (sR : Small R) (hS : TextAt w la L) (hT : TextAt w ra R) (b : Nat) (e0 : w.cell? ⟨b, 0, none⟩ = some (.slice la nl cl)) (e1 : w.cell? ⟨b, 1, none⟩ = some (.slice ra nr cr)) :
    Calls Try.prog 106 #[.slice (some ⟨b, 0, none⟩) 2 2, .func (.func 108) #[] #[]] w fun e w' => e = .returned (.bool (valT L && valT R)) ∧ Below w.heap.size w w' := by
  have hB : Below w.heap.size w (w.alloc (.cells #[.func (.func 108) #[] #[]] 178)) := below_alloc _ _
  have hc : Calls Try.prog 127 #[.slice (some ⟨b, 0, none⟩) 2 2, .func (.func 128) #[] #[.pointer (some ⟨w.heap.size, 0, none⟩)]] (w.alloc (.cells #[.func (.func 108) #[] #[]] 178)) fun e w' => e = .returned (.bool (!(valT L && valT R))) ∧ Below (w.alloc (.cells #[.func (.func 108) #[] #[]] 178)).heap.size (w.alloc (.cells #[.func (.func 108) #[] #[]] 178)) w' := by
    have hi := valT_index L R nl cl nr cr la ra _ hL hR sL sR (hS.grown hB) (hT.grown hB) b w.heap.size (cell_grown hB e0) (cell_grown hB e1) (by simp [go_sem])
    go_enter Try.func127, Try.ntmps127
    go_wp2_with fail
    refine hi.mono ?_
    rintro e w' ⟨z, rfl, hb, hz⟩
    have HZ := hid hz.out
    clear hz
    go_wp2_with fail
    go_ret
    exact ⟨by rw [← HZ.out]; simp, hb⟩
  go_enter Try.func106, Try.ntmps106
  go_wp2_with fail
  refine hc.mono ?_
  rintro e w' ⟨rfl, hb⟩
  go_wp2_with fail
  go_ret
  exact ⟨by simp, hB.trans (hb.mono hB.size)⟩

/-- The error of two texts. -/
def faultM (L R : List Sen) : Int := if limT L && limT R then (if valT L && valT R then 0 else 1) else 3

set_option maxHeartbeats 1000000 in
theorem fault_any (L R : List Sen) (nl cl nr cr : Nat) (la ra : Option Addr) (w : World) (hL : L.length = nl) (hR : R.length = nr) (sL : Small L) (sR : Small R) (hS : TextAt w la L) (hT : TextAt w ra R) (b : Nat) (e0 : w.cell? ⟨b, 0, none⟩ = some (.slice la nl cl)) (e1 : w.cell? ⟨b, 1, none⟩ = some (.slice ra nr cr)) :
    Calls Try.prog 76 #[.slice (some ⟨b, 0, none⟩) 2 2] w fun e w' => e = .returned (.int .i64 (faultM L R)) ∧ Below w.heap.size w w' := by
  have h1 := limT_all L R nl cl nr cr la ra w hL hR sL sR hS hT b e0 e1
  have h2 : ∀ W, Below w.heap.size w W → Calls Try.prog 106 #[.slice (some ⟨b, 0, none⟩) 2 2, .func (.func 108) #[] #[]] W fun e w' => e = .returned (.bool (valT L && valT R)) ∧ Below W.heap.size W w' := fun W hW => valT_all L R nl cl nr cr la ra W hL hR sL sR (hS.grown hW) (hT.grown hW) b (cell_grown hW e0) (cell_grown hW e1)
  unfold faultM
  clear hL hR sL sR hS hT
  cases hl : (limT L && limT R)
  · rw [hl] at h1
    clear hl
    go_enter Try.func76, Try.ntmps76
    go_wp2_with (go_at_call 106; refine h1.mono ?_; rintro e w' ⟨rfl, hb⟩)
    go_ret
    exact ⟨rfl, hb⟩
  · rw [hl] at h1
    clear hl
    cases hv : (valT L && valT R)
    · rw [hv] at h2
      clear hv
      go_enter Try.func76, Try.ntmps76
      go_wp2_with (first | (go_at_call 106; refine h1.mono ?_; clear h1; rintro e w1 ⟨rfl, hb⟩; replace h2 := h2 _ hb) | (go_at_call 106; refine h2.mono ?_; rintro e w2 ⟨rfl, hb2⟩))
      go_ret
      exact ⟨rfl, below_then hb hb2⟩
    · rw [hv] at h2
      clear hv
      go_enter Try.func76, Try.ntmps76
      go_wp2_with (first | (go_at_call 106; refine h1.mono ?_; clear h1; rintro e w1 ⟨rfl, hb⟩; replace h2 := h2 _ hb) | (go_at_call 106; refine h2.mono ?_; rintro e w2 ⟨rfl, hb2⟩))
      go_ret
      exact ⟨rfl, below_then hb hb2⟩

end Go.Proofs.Ytohahlnhbppnhaa
