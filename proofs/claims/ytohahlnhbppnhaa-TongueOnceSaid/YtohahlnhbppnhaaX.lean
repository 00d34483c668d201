/- Tongue: which speeches are valid. -/
import Derived.Test.YtohahlnhbppnhaaW
namespace Go.Proofs.Ytohahlnhbppnhaa
open Go.RowKit
set_option linter.unusedSimpArgs false
set_option linter.unusedVariables false

/-- May an interpreter need so many seconds? -/
def valR (r : Int × Int) : Bool := decide (1 ≤ r.1) && (decide (r.1 ≤ r.2) && decide (r.2 ≤ 60))

set_option maxHeartbeats 400000 in
theorem valR_any (x y : Int) (w : World) : Calls Try.prog 98 #[.agg #[.int .i64 x, .int .i64 y]] w fun e w' => e = .returned (.bool (valR (x, y))) ∧ Below w.heap.size w w' := by
  have hb0 := below_alloc w (.cells #[.int .i64 x, .int .i64 y] 85)
  have hv : valR (x, y) = (decide (1 ≤ x) && (decide (x ≤ y) && decide (y ≤ 60))) := rfl
  rw [hv]
  clear hv
  by_cases h1 : 1 ≤ x <;> by_cases h2 : x ≤ y <;> by_cases h3 : y ≤ 60
  all_goals first | (exfalso; omega) | (go_enter Try.func98, Try.ntmps98; go_wp2_with fail; go_ret; exact ⟨by simp [h1, h2, h3], hb0⟩)

theorem allR_true {p : Int × Int → Bool} {T : List (Int × Int)} (h : ∀ i, i < T.length → p (T.getD i (0, 0)) = true) : T.all p = true := by
  rw [List.all_eq_true]
  intro x hx
  obtain ⟨i, hi, rfl⟩ := List.mem_iff_getElem.1 hx
  have := h i hi
  rwa [List.getD_eq_getElem?_getD, List.getElem?_eq_getElem hi, Option.getD_some] at this

theorem allR_false {p : Int × Int → Bool} {T : List (Int × Int)} {i : Nat} (hi : i < T.length) (h : p (T.getD i (0, 0)) = false) : T.all p = false := by
  cases hv : T.all p
  · rfl
  · rw [List.all_eq_true] at hv
    rw [hv (T.getD i (0, 0)) (by rw [List.getD_eq_getElem?_getD, List.getElem?_eq_getElem hi]; exact List.getElem_mem _)] at h
    cases h

set_option maxHeartbeats 400000 in
theorem valR1_any (x y : Int) (fb : Nat) (w : World) (hf : w.cell? ⟨fb, 0, none⟩ = some (.func (.func 98) #[] #[])) :
    Calls Try.prog 125 #[.agg #[.int .i64 x, .int .i64 y], .pointer (some ⟨fb, 0, none⟩)] w fun e w' => e = .returned (.bool (!valR (x, y))) ∧ Below w.heap.size w w' := by
  have hfb := lt_of_cell hf
  have hB : ∀ o, Below w.heap.size w (w.alloc o) := fun o => below_alloc w o
  have hp := valR_any x y (w.alloc (.cells #[.int .i64 x, .int .i64 y] 85))
  go_enter Try.func125, Try.ntmps125
  go_wp2_with fail
  refine hp.mono ?_
  rintro e w' ⟨rfl, hb⟩
  go_wp2_with fail
  go_ret
  exact ⟨rfl, (hB _).trans (hb.mono (by simp))⟩

set_option maxRecDepth 100000 in
set_option maxHeartbeats 1000000 in
theorem valR_index (T : List (Int × Int)) (n cap fb : Nat) (a : Option Addr) (w : World) (hT : T.length = n) (hn : n ≤ 1000000) (hS : PairsAt w a T) (hf : w.cell? ⟨fb, 0, none⟩ = some (.func (.func 98) #[] #[])) :
    Calls Try.prog 136 #[.slice a n cap, .func (.func 125) #[] #[.pointer (some ⟨fb, 0, none⟩)]] w fun e w' => ∃ z : Int, e = .returned (.int .i64 z) ∧ Below w.heap.size w w' ∧ Hid (decide (0 ≤ z) = !T.all valR) := by
  have HT := hid hT
  clear hT
  go_enter Try.func136, Try.ntmps136
  go_wp2_with fail
  go_loopw [8] (fun i wr => ∃ j : Nat, j ≤ n ∧ i = .int .i64 j ∧ Hid (∀ i, i < j → valR (T.getD i (0, 0)) = true) ∧ Below w.heap.size w wr) (fun i _ => n - (intOf i).toNat)
  case atStart => exact ⟨0, Nat.zero_le _, rfl, hid (fun i hi => by omega), Below.refl _ _⟩
  case round =>
    obtain ⟨j, hj, rfl, HK, hB⟩ := hrel
    by_cases hlt : j < n
    · have hjj : (j : Int) < n := by omega
      obtain ⟨b, off, ea, e1, e2⟩ := hS j (by rw [HT.out]; exact hlt)
      subst ea
      replace e1 := cell_grown hB e1
      replace e2 := cell_grown hB e2
      have gb := lt_of_cell e1
      have hcall := valR1_any (T.getD j (0, 0)).1 (T.getD j (0, 0)).2 fb wr (cell_grown hB hf)
      obtain ⟨r, hr⟩ : ∃ r, valR (T.getD j (0, 0)) = r := ⟨_, rfl⟩
      have hr' : valR ((T.getD j (0, 0)).1, (T.getD j (0, 0)).2) = r := hr
      rw [hr'] at hcall
      have HR := hid hr
      clear hr hr'
      generalize (T.getD j (0, 0)).1 = m at e1 hcall
      generalize (T.getD j (0, 0)).2 = z at e2 hcall
      go_wp2_with fail
      refine hcall.mono ?_
      cases hv : r
      · rintro e w' ⟨rfl, hb⟩
        have hal : T.all valR = false := allR_false (i := j) (by rw [HT.out]; exact hlt) (by rw [HR.out, hv])
        have HAL := hid hal
        clear hv hal
        go_wp2_with fail
        go_ret
        exact ⟨j, rfl, below_then hB hb, hid (by rw [HAL.out]; simp)⟩
      · rintro e w' ⟨rfl, hb⟩
        have HV : Hid (valR (T.getD j (0, 0)) = true) := hid (by rw [HR.out, hv])
        clear hv
        go_wp2_with fail
        go_roundw
        case rel => exact ⟨j + 1, by omega, by go_num, hid (fun i hi => by
          by_cases e : i = j
          · subst e; exact HV.out
          · exact HK.out i (by omega)), below_then hB hb⟩
        case measure => simp [intOf]; omega
    · have hjn : j = n := by omega
      subst hjn
      have hal : T.all valR = true := allR_true (fun i hi => HK.out i (by rw [← HT.out]; exact hi))
      have HAL := hid hal
      clear hal
      go_wp2_with fail
      go_ret
      exact ⟨-1, rfl, hB, hid (by rw [HAL.out]; rfl)⟩

set_option maxHeartbeats 400000 in
theorem valR_all (T : List (Int × Int)) (n cap : Nat) (a : Option Addr) (w : World) (hT : T.length = n) (hn : n ≤ 1000000) (hS : PairsAt w a T) :
    Calls Try.prog 97 #[.slice a n cap, .func (.func 98) #[] #[]] w fun e w' => e = .returned (.bool (T.all valR)) ∧ Below w.heap.size w w' := by
  have hB : Below w.heap.size w (w.alloc (.cells #[.func (.func 98) #[] #[]] 172)) := below_alloc _ _
  have hc : Calls Try.prog 124 #[.slice a n cap, .func (.func 125) #[] #[.pointer (some ⟨w.heap.size, 0, none⟩)]] (w.alloc (.cells #[.func (.func 98) #[] #[]] 172)) fun e w' => e = .returned (.bool (!T.all valR)) ∧ Below (w.alloc (.cells #[.func (.func 98) #[] #[]] 172)).heap.size (w.alloc (.cells #[.func (.func 98) #[] #[]] 172)) w' := by
    have hi := valR_index T n cap w.heap.size a _ hT hn (hS.grown hB) (by simp [go_sem])
    go_enter Try.func124, Try.ntmps124
    go_wp2_with fail
    refine hi.mono ?_
    rintro e w' ⟨z, rfl, hb, hz⟩
    have HZ := hid hz.out
    clear hz
    go_wp2_with fail
    go_ret
    exact ⟨by rw [← HZ.out]; simp, hb⟩
  go_enter Try.func97, Try.ntmps97
  go_wp2_with fail
  refine hc.mono ?_
  rintro e w' ⟨rfl, hb⟩
  go_wp2_with fail
  go_ret
  exact ⟨by simp, hB.trans (hb.mono hB.size)⟩

/-- A speech, as the laws have it. -/
structure Spoken where
  starts : List Int
  lag : Int
  needs : List (Int × Int)

def valP (s : Spoken) : Bool := decide (s.starts.length ≤ 20) && (risingM s.starts 0 100000 && (inB s.lag 1 60 && (decide (s.needs.length = s.starts.length) && s.needs.all valR)))

set_option maxHeartbeats 1000000 in
theorem valP_any (s : Spoken) (ns nc ms mc : Nat) (sa na : Option Addr) (w : World) (h1 : s.starts.length = ns) (h2 : s.needs.length = ms) (hn : ns ≤ 1000000) (hm : ms ≤ 1000000) (hS : IntsAt w sa s.starts) (hN : PairsAt w na s.needs) :
    Calls Try.prog 68 #[.agg #[.slice sa ns nc, .int .i64 s.lag, .slice na ms mc]] w fun e w' => e = .returned (.bool (valP s)) ∧ Below w.heap.size w w' := by
  have hb0 := below_alloc w (.cells #[.slice sa ns nc, .int .i64 s.lag, .slice na ms mc] 78)
  have hr : ∀ W, Below w.heap.size w W → Calls Try.prog 96 #[.slice sa ns nc, .int .i64 0, .int .i64 100000] W fun e w' => e = .returned (.bool (risingM s.starts 0 100000)) ∧ Below W.heap.size W w' := fun W hW => rising_any s.starts 0 100000 _ nc sa W h1 hn (hS.grown hW)
  have ha : ∀ W, Below w.heap.size w W → Calls Try.prog 97 #[.slice na ms mc, .func (.func 98) #[] #[]] W fun e w' => e = .returned (.bool (s.needs.all valR)) ∧ Below W.heap.size W w' := fun W hW => valR_all s.needs _ mc na W h2 hm (hN.grown hW)
  have hw := fun W => within_any s.lag 1 60 W
  unfold valP
  rw [h1, h2]
  generalize s.lag = g at hb0 hw ⊢
  obtain ⟨p1, hp1⟩ : ∃ p, risingM s.starts 0 100000 = p := ⟨_, rfl⟩
  obtain ⟨p2, hp2⟩ : ∃ p, inB g 1 60 = p := ⟨_, rfl⟩
  obtain ⟨p3, hp3⟩ : ∃ p, s.needs.all valR = p := ⟨_, rfl⟩
  rw [hp1] at hr ⊢
  rw [hp2] at hw ⊢
  rw [hp3] at ha ⊢
  clear hp1 hp2 hp3 h1 h2 hS hN
  obtain ⟨W0, hW0⟩ : ∃ X, X = w.alloc (.cells #[.slice sa ns nc, .int .i64 g, .slice na ms mc] 78) := ⟨_, rfl⟩
  rw [← hW0] at hb0
  have c0 : W0.cell? ⟨w.heap.size, 0, none⟩ = some (.slice sa ns nc) := by rw [hW0]; simp
  have c1 : W0.cell? ⟨w.heap.size, 1, none⟩ = some (.int .i64 g) := by rw [hW0]; simp
  have c2 : W0.cell? ⟨w.heap.size, 2, none⟩ = some (.slice na ms mc) := by rw [hW0]; simp
  have g0 := lt_of_cell c0
  subst hW0
  by_cases h1 : ns ≤ 20
  · have h1' : (ns : Int) ≤ 20 := by omega
    cases p1
    · go_enter Try.func68, Try.ntmps68
      go_wp2_with (go_at_call 96; refine (hr _ hb0).mono ?_; rintro e w1 ⟨rfl, hb1⟩)
      go_ret
      exact ⟨by simp, below_then hb0 hb1⟩
    · cases p2
      · go_enter Try.func68, Try.ntmps68
        go_wp2_with (first | (go_at_call 96; refine (hr _ hb0).mono ?_; rintro e w1 ⟨rfl, hb1⟩; replace c1 := cell_grown hb1 c1; have g1 := lt_of_cell c1) | (go_at_call 69; refine (hw _).mono ?_; rintro e w' ⟨rfl, rfl⟩))
        go_ret
        exact ⟨by simp, below_then hb0 hb1⟩
      · by_cases h2 : ms = ns
        · subst h2
          have hd : decide (ms ≤ 20) = true := by simp [h1]
          rw [hd]
          clear hd h1
          go_enter Try.func68, Try.ntmps68
          go_wp2_with (first | (go_at_call 96; refine (hr _ hb0).mono ?_; rintro e w1 ⟨rfl, hb1⟩; replace c0 := cell_grown hb1 c0; replace c1 := cell_grown hb1 c1; replace c2 := cell_grown hb1 c2; have g1 := lt_of_cell c1) | (go_at_call 69; refine (hw _).mono ?_; rintro e w' ⟨rfl, rfl⟩) | (go_at_call 97; refine (ha _ (below_then hb0 hb1)).mono ?_; rintro e w2 ⟨rfl, hb2⟩))
          go_ret
          exact ⟨by simp, below_then hb0 (below_then hb1 hb2)⟩
        · have h2' : ¬ (ms : Int) = ns := by omega
          go_enter Try.func68, Try.ntmps68
          go_wp2_with (first | (go_at_call 96; refine (hr _ hb0).mono ?_; rintro e w1 ⟨rfl, hb1⟩; replace c0 := cell_grown hb1 c0; replace c1 := cell_grown hb1 c1; replace c2 := cell_grown hb1 c2; have g1 := lt_of_cell c1) | (go_at_call 69; refine (hw _).mono ?_; rintro e w' ⟨rfl, rfl⟩))
          go_ret
          exact ⟨by simp [h2], below_then hb0 hb1⟩
  · have h1' : ¬ (ns : Int) ≤ 20 := by omega
    go_enter Try.func68, Try.ntmps68
    go_wp2_with fail
    go_ret
    exact ⟨by simp [h1], hb0⟩

end Go.Proofs.Ytohahlnhbppnhaa
