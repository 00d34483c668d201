/- Tongue: whether a table covers all places. -/
import Derived.Test.YtohahlnhbppnhaaBZ
import Derived.Test.YtohahlnhbppnhaaE
namespace Go.Proofs.Ytohahlnhbppnhaa
open Go.RowKit
set_option linter.unusedSimpArgs false
set_option linter.unusedVariables false

theorem allD_true {α : Type} {p : α → Bool} {T : List α} {d : α} (h : ∀ i, i < T.length → p (T.getD i d) = true) : T.all p = true := by
  rw [List.all_eq_true]
  intro x hx
  obtain ⟨i, hi, rfl⟩ := List.mem_iff_getElem.1 hx
  have := h i hi
  rwa [List.getD_eq_getElem?_getD, List.getElem?_eq_getElem hi] at this

theorem allD_false {α : Type} {p : α → Bool} {T : List α} {d : α} {i : Nat} (hi : i < T.length) (h : p (T.getD i d) = false) : T.all p = false := by
  rw [← Bool.not_eq_true, List.all_eq_true]
  intro hh
  have := hh T[i] (List.getElem_mem _)
  rw [List.getD_eq_getElem?_getD, List.getElem?_eq_getElem hi] at h
  simp only [Option.getD_some] at h
  rw [h] at this
  cases this

/-- A number that a cost may be. -/
def okN (z : Int) : Bool := inB z 0 100000

set_option maxHeartbeats 400000 in
theorem in92_any (z : Int) (w : World) : Calls Try.prog 92 #[.int .i64 z] w fun e w' => e = .returned (.bool (okN z)) ∧ Below w.heap.size w w' := by
  have h := fun W => within_any z 0 100000 W
  have hk : okN z = inB z 0 100000 := rfl
  rw [hk]
  generalize inB z 0 100000 = r at h
  go_enter Try.func92, Try.ntmps92
  go_wp2_with (go_at_call 69; refine (h _).mono ?_; rintro e w' ⟨rfl, rfl⟩)
  go_ret
  exact ⟨rfl, Below.refl _ _⟩

set_option maxHeartbeats 400000 in
theorem in1_any (z : Int) (fb : Nat) (w : World) (hf : w.cell? ⟨fb, 0, none⟩ = some (.func (.func 92) #[] #[])) :
    Calls Try.prog 122 #[.int .i64 z, .pointer (some ⟨fb, 0, none⟩)] w fun e w' => e = .returned (.bool (!okN z)) ∧ Below w.heap.size w w' := by
  have hp := in92_any z w
  have hfb := lt_of_cell hf
  generalize okN z = r at hp ⊢
  go_enter Try.func122, Try.ntmps122
  go_wp2_with fail
  refine hp.mono ?_
  rintro e w' ⟨rfl, hb⟩
  go_wp2_with fail
  go_ret
  exact ⟨rfl, hb⟩

set_option maxRecDepth 100000 in
set_option maxHeartbeats 1000000 in
theorem in_index (T : List Int) (n cap fb : Nat) (a : Option Addr) (w : World) (hT : T.length = n) (hn' : n ≤ 1000) (hS : IntsAt w a T) (hf : w.cell? ⟨fb, 0, none⟩ = some (.func (.func 92) #[] #[])) :
    Calls Try.prog 135 #[.slice a n cap, .func (.func 122) #[] #[.pointer (some ⟨fb, 0, none⟩)]] w fun e w' => ∃ z : Int, e = .returned (.int .i64 z) ∧ Below w.heap.size w w' ∧ Hid (decide (0 ≤ z) = !T.all okN) := by
  have HT := hid hT
  clear hT
  go_enter Try.func135, Try.ntmps135
  go_wp2_with fail
  go_loopw [8] (fun i wr => ∃ j : Nat, j ≤ n ∧ i = .int .i64 j ∧ Hid (∀ i, i < j → okN (T.getD i 0) = true) ∧ Below w.heap.size w wr) (fun i _ => n - (intOf i).toNat)
  case atStart => exact ⟨0, Nat.zero_le _, rfl, hid (fun i hi => by omega), Below.refl _ _⟩
  case round =>
    obtain ⟨j, hj, rfl, HK, hB⟩ := hrel
    by_cases hlt : j < n
    · have hjj : (j : Int) < n := by omega
      obtain ⟨b, off, ea, e1⟩ := hS j (by rw [HT.out]; exact hlt)
      subst ea
      replace e1 := cell_grown hB e1
      have gb := lt_of_cell e1
      have hcall := in1_any (T.getD j 0) fb wr (cell_grown hB hf)
      obtain ⟨r, hr⟩ : ∃ r, okN (T.getD j 0) = r := ⟨_, rfl⟩
      rw [hr] at hcall
      have HR := hid hr
      clear hr
      generalize T.getD j 0 = x at e1 hcall
      go_wp2_with fail
      refine hcall.mono ?_
      cases hv : r
      · rintro e w' ⟨rfl, hb⟩
        have hal : T.all okN = false := allD_false (i := j) (d := 0) (by rw [HT.out]; exact hlt) (by rw [HR.out, hv])
        have HAL := hid hal
        clear hv hal
        go_wp2_with fail
        go_ret
        exact ⟨j, rfl, below_then hB hb, hid (by rw [HAL.out]; simp)⟩
      · rintro e w' ⟨rfl, hb⟩
        have HV : Hid (okN (T.getD j 0) = true) := hid (by rw [HR.out, hv])
        clear hv
        go_wp2_with fail
        go_roundw
        case rel => exact ⟨j + 1, by omega, by go_num, hid (fun i hi => by
          by_cases e : i = j
          · subst e; exact HV.out
          · exact HK.out i (by omega)), below_then hB hb⟩
        case measure => simp [intOf]; omega
    · have hjn : j = n := by omega
      subst hjn
      have hal : T.all okN = true := allD_true (d := 0) (fun i hi => HK.out i (by rw [← HT.out]; exact hi))
      have HAL := hid hal
      clear hal
      go_wp2_with fail
      go_ret
      exact ⟨-1, rfl, hB, hid (by rw [HAL.out]; rfl)⟩

set_option maxHeartbeats 400000 in
theorem in_all (T : List Int) (n cap : Nat) (a : Option Addr) (w : World) (hT : T.length = n) (hn' : n ≤ 1000) (hS : IntsAt w a T) :
    Calls Try.prog 91 #[.slice a n cap, .func (.func 92) #[] #[]] w fun e w' => e = .returned (.bool (T.all okN)) ∧ Below w.heap.size w w' := by
  have hB : Below w.heap.size w (w.alloc (.cells #[.func (.func 92) #[] #[]] 164)) := below_alloc _ _
  have hc : Calls Try.prog 121 #[.slice a n cap, .func (.func 122) #[] #[.pointer (some ⟨w.heap.size, 0, none⟩)]] (w.alloc (.cells #[.func (.func 92) #[] #[]] 164)) fun e w' => e = .returned (.bool (!T.all okN)) ∧ Below (w.alloc (.cells #[.func (.func 92) #[] #[]] 164)).heap.size (w.alloc (.cells #[.func (.func 92) #[] #[]] 164)) w' := by
    have hi := in_index T n cap w.heap.size a _ hT hn' (hS.grown hB) (by simp [go_sem]) 
    go_enter Try.func121, Try.ntmps121
    go_wp2_with fail
    refine hi.mono ?_
    rintro e w' ⟨z, rfl, hb, hz⟩
    have HZ := hid hz.out
    clear hz
    go_wp2_with fail
    go_ret
    exact ⟨by rw [← HZ.out]; simp, hb⟩
  go_enter Try.func91, Try.ntmps91
  go_wp2_with fail
  refine hc.mono ?_
  rintro e w' ⟨rfl, hb⟩
  go_wp2_with fail
  go_ret
  exact ⟨by simp, hB.trans (hb.mono hB.size)⟩

/-- A row of the table has so many numbers, each as a cost may be. -/
def okRow (M : Nat) (r : List Int) : Bool := decide (r.length = M) && r.all okN

set_option maxHeartbeats 1000000 in
theorem row90_any (r : List Int) (n cap pb m : Nat) (a : Option Addr) (w : World) (hr : r.length = n) (hn : n ≤ 1000) (hm : m ≤ 1000) (hI : IntsAt w a r) (hp1 : w.cell? ⟨pb, 1, none⟩ = some (.int .i64 (m : Int))) :
    Calls Try.prog 90 #[.slice a n cap, .pointer (some ⟨pb, 0, none⟩)] w fun e w' => e = .returned (.bool (okRow (m + 1) r)) ∧ Below w.heap.size w w' := by
  have hal := in_all r n cap a w hr hn hI
  have HOK : Hid (okRow (m + 1) r = (decide (n = m + 1) && r.all okN)) := hid (by unfold okRow; rw [hr])
  generalize r.all okN = v at hal HOK
  have gp := lt_of_cell hp1
  obtain ⟨M, hM⟩ : ∃ M, m + 1 = M := ⟨_, rfl⟩
  rw [hM] at HOK ⊢
  have wM : IntKind.i64.wrap ((m : Int) + 1) = (M : Int) := by rw [IntKind.wrap_i64]; omega
  have HM := hid hM
  clear hr hI hM
  by_cases he : n = M
  · have q : ((n : Int) == (M : Int)) = true := by simp [he]
    have HO2 : Hid (okRow M r = v) := hid (by rw [HOK.out]; simp [he])
    clear he
    go_enter Try.func90, Try.ntmps90
    go_wp2_with (first | (go_at_call 91; refine hal.mono ?_; rintro e w' ⟨rfl, hb⟩))
    go_ret
    exact ⟨by rw [HO2.out]; rfl, hb⟩
  · have q : ((n : Int) == (M : Int)) = false := by simp; omega
    have HO2 : Hid (okRow M r = false) := hid (by rw [HOK.out]; simp [he])
    clear he
    go_enter Try.func90, Try.ntmps90
    go_wp2_with fail
    go_ret
    exact ⟨by rw [HO2.out]; rfl, Below.refl _ _⟩

set_option maxHeartbeats 400000 in
theorem row1_any (r : List Int) (n cap fb pb m : Nat) (a : Option Addr) (w : World) (hr : r.length = n) (hn : n ≤ 1000) (hm : m ≤ 1000) (hI : IntsAt w a r) (hp1 : w.cell? ⟨pb, 1, none⟩ = some (.int .i64 (m : Int))) (hf : w.cell? ⟨fb, 0, none⟩ = some (.func (.func 90) #[] #[.pointer (some ⟨pb, 0, none⟩)])) :
    Calls Try.prog 120 #[.slice a n cap, .pointer (some ⟨fb, 0, none⟩)] w fun e w' => e = .returned (.bool (!okRow (m + 1) r)) ∧ Below w.heap.size w w' := by
  have hp := row90_any r n cap pb m a w hr hn hm hI hp1
  have hfb := lt_of_cell hf
  generalize okRow (m + 1) r = v at hp ⊢
  clear hr hI hp1
  go_enter Try.func120, Try.ntmps120
  go_wp2_with fail
  refine hp.mono ?_
  rintro e w' ⟨rfl, hb⟩
  go_wp2_with fail
  go_ret
  exact ⟨rfl, hb⟩

set_option maxRecDepth 100000 in
set_option maxHeartbeats 1000000 in
theorem row_index (T : List (List Int)) (n cap fb pb m : Nat) (a : Option Addr) (w : World) (hT : T.length = n) (hn' : n ≤ 1000) (hm : m ≤ 1000) (hk : ∀ r ∈ T, r.length ≤ 1000) (hS : GridAt w a T) (hf : w.cell? ⟨fb, 0, none⟩ = some (.func (.func 90) #[] #[.pointer (some ⟨pb, 0, none⟩)])) (hp1 : w.cell? ⟨pb, 1, none⟩ = some (.int .i64 (m : Int))) :
    Calls Try.prog 134 #[.slice a n cap, .func (.func 120) #[] #[.pointer (some ⟨fb, 0, none⟩)]] w fun e w' => ∃ z : Int, e = .returned (.int .i64 z) ∧ Below w.heap.size w w' ∧ Hid (decide (0 ≤ z) = !T.all (okRow (m + 1))) := by
  have HT := hid hT
  clear hT
  go_enter Try.func134, Try.ntmps134
  go_wp2_with fail
  go_loopw [8] (fun i wr => ∃ j : Nat, j ≤ n ∧ i = .int .i64 j ∧ Hid (∀ i, i < j → (okRow (m + 1)) (T.getD i []) = true) ∧ Below w.heap.size w wr) (fun i _ => n - (intOf i).toNat)
  case atStart => exact ⟨0, Nat.zero_le _, rfl, hid (fun i hi => by omega), Below.refl _ _⟩
  case round =>
    obtain ⟨j, hj, rfl, HK, hB⟩ := hrel
    by_cases hlt : j < n
    · have hjj : (j : Int) < n := by omega
      obtain ⟨b, off, ra, rc, ea, e1, e2⟩ := hS j (by rw [HT.out]; exact hlt)
      subst ea
      replace e1 := cell_grown hB e1
      replace e2 := e2.grown hB
      have gb := lt_of_cell e1
      have hmem : T.getD j [] ∈ T := by
        rw [List.getD_eq_getElem?_getD, List.getElem?_eq_getElem (by rw [HT.out]; exact hlt)]
        exact List.getElem_mem _
      have hcall := row1_any (T.getD j []) (T.getD j []).length rc fb pb m ra wr rfl (hk _ hmem) hm e2 (cell_grown hB hp1) (cell_grown hB hf)
      clear e2 hmem
      obtain ⟨r, hr⟩ : ∃ r, (okRow (m + 1)) (T.getD j []) = r := ⟨_, rfl⟩
      rw [hr] at hcall
      have HR := hid hr
      clear hr
      generalize (T.getD j []).length = x at e1 hcall
      go_wp2_with fail
      refine hcall.mono ?_
      cases hv : r
      · rintro e w' ⟨rfl, hb⟩
        have hal : T.all (okRow (m + 1)) = false := allD_false (i := j) (d := []) (by rw [HT.out]; exact hlt) (by rw [HR.out, hv])
        have HAL := hid hal
        clear hv hal
        go_wp2_with fail
        go_ret
        exact ⟨j, rfl, below_then hB hb, hid (by rw [HAL.out]; simp)⟩
      · rintro e w' ⟨rfl, hb⟩
        have HV : Hid ((okRow (m + 1)) (T.getD j []) = true) := hid (by rw [HR.out, hv])
        clear hv
        go_wp2_with fail
        go_roundw
        case rel => exact ⟨j + 1, by omega, by go_num, hid (fun i hi => by
          by_cases e : i = j
          · subst e; exact HV.out
          · exact HK.out i (by omega)), below_then hB hb⟩
        case measure => simp [intOf]; omega
    · have hjn : j = n := by omega
      subst hjn
      have hal : T.all (okRow (m + 1)) = true := allD_true (d := []) (fun i hi => HK.out i (by rw [← HT.out]; exact hi))
      have HAL := hid hal
      clear hal
      go_wp2_with fail
      go_ret
      exact ⟨-1, rfl, hB, hid (by rw [HAL.out]; rfl)⟩

set_option maxHeartbeats 400000 in
theorem row_all (T : List (List Int)) (n cap pb m : Nat) (a : Option Addr) (w : World) (hT : T.length = n) (hn' : n ≤ 1000) (hm : m ≤ 1000) (hk : ∀ r ∈ T, r.length ≤ 1000) (hS : GridAt w a T) (hp1 : w.cell? ⟨pb, 1, none⟩ = some (.int .i64 (m : Int))) :
    Calls Try.prog 89 #[.slice a n cap, .func (.func 90) #[] #[.pointer (some ⟨pb, 0, none⟩)]] w fun e w' => e = .returned (.bool (T.all (okRow (m + 1)))) ∧ Below w.heap.size w w' := by
  have hB : Below w.heap.size w (w.alloc (.cells #[.func (.func 90) #[] #[.pointer (some ⟨pb, 0, none⟩)]] 140)) := below_alloc _ _
  have hc : Calls Try.prog 119 #[.slice a n cap, .func (.func 120) #[] #[.pointer (some ⟨w.heap.size, 0, none⟩)]] (w.alloc (.cells #[.func (.func 90) #[] #[.pointer (some ⟨pb, 0, none⟩)]] 140)) fun e w' => e = .returned (.bool (!T.all (okRow (m + 1)))) ∧ Below (w.alloc (.cells #[.func (.func 90) #[] #[.pointer (some ⟨pb, 0, none⟩)]] 140)).heap.size (w.alloc (.cells #[.func (.func 90) #[] #[.pointer (some ⟨pb, 0, none⟩)]] 140)) w' := by
    have hi := row_index T n cap w.heap.size pb m a _ hT hn' hm hk (hS.grown hB) (by simp [go_sem]) (cell_grown hB hp1)
    go_enter Try.func119, Try.ntmps119
    go_wp2_with fail
    refine hi.mono ?_
    rintro e w' ⟨z, rfl, hb, hz⟩
    have HZ := hid hz.out
    clear hz
    go_wp2_with fail
    go_ret
    exact ⟨by rw [← HZ.out]; simp, hb⟩
  go_enter Try.func89, Try.ntmps89
  go_wp2_with fail
  refine hc.mono ?_
  rintro e w' ⟨rfl, hb⟩
  go_wp2_with fail
  go_ret
  exact ⟨by simp, hB.trans (hb.mono hB.size)⟩

/-- The table has a number for each place, as a cost may be. -/
def coversM (N M : Nat) (T : List (List Int)) : Bool := decide (T.length = N) && T.all (okRow M)

set_option maxRecDepth 100000 in
set_option maxHeartbeats 1000000 in
theorem covers_any (T : List (List Int)) (n nc m mc b t tc : Nat) (la ra ta : Option Addr) (w : World) (hn : n ≤ 1000) (hm : m ≤ 1000) (hT : T.length = t) (ht : t ≤ 1000) (hk : ∀ r ∈ T, r.length ≤ 1000) (hG : GridAt w ta T) :
    Calls Try.prog 65 #[.agg #[.slice la n nc, .int .u8 0, .int .i64 0, .slice ra m mc, .int .u8 1, .int .i64 0, .slice (some ⟨b, 0, none⟩) 3 3], .slice ta t tc] w fun e w' => e = .returned (.bool (coversM (n + 1) (m + 1) T)) ∧ Below w.heap.size w w' := by
  have hpd : ∀ W, Calls Try.prog 84 #[.agg #[.slice la n nc, .int .u8 0, .int .i64 0, .slice ra m mc, .int .u8 1, .int .i64 0, .slice (some ⟨b, 0, none⟩) 3 3]] W fun e w' => e = .returned (.agg #[.int .i64 (n : Int), .int .i64 (m : Int)]) ∧ Below W.heap.size W w' := fun W => by
    have h := pend_any 0 1 n nc 0 m mc 0 la ra (some ⟨b, 0, none⟩) 3 3 W hn hm (by omega) (by omega)
    rw [Nat.zero_add, Nat.zero_add] at h
    exact h
  have hal := fun pb W (hb : Below w.heap.size w W) hp1 => row_all T t tc pb m ta W hT ht hm hk (hG.grown hb) hp1
  have HOK : Hid (coversM (n + 1) (m + 1) T = (decide (t = n + 1) && T.all (okRow (m + 1)))) := hid (by unfold coversM; rw [hT])
  generalize T.all (okRow (m + 1)) = v at hal HOK
  obtain ⟨W0, hW0⟩ : ∃ X, X = w.alloc (.cells #[.slice la n nc, .int .u8 0, .int .i64 0, .slice ra m mc, .int .u8 1, .int .i64 0, .slice (some ⟨b, 0, none⟩) 3 3] 119) := ⟨_, rfl⟩
  have hB0 : Below w.heap.size w W0 := by rw [hW0]; exact below_alloc _ _
  have p0 : W0.cell? ⟨w.heap.size, 0, none⟩ = some (.slice la n nc) := by rw [hW0]; simp [go_sem]
  have p1 : W0.cell? ⟨w.heap.size, 1, none⟩ = some (.int .u8 0) := by rw [hW0]; simp [go_sem]
  have p2 : W0.cell? ⟨w.heap.size, 2, none⟩ = some (.int .i64 0) := by rw [hW0]; simp [go_sem]
  have p3 : W0.cell? ⟨w.heap.size, 3, none⟩ = some (.slice ra m mc) := by rw [hW0]; simp [go_sem]
  have p4 : W0.cell? ⟨w.heap.size, 4, none⟩ = some (.int .u8 1) := by rw [hW0]; simp [go_sem]
  have p5 : W0.cell? ⟨w.heap.size, 5, none⟩ = some (.int .i64 0) := by rw [hW0]; simp [go_sem]
  have p6 : W0.cell? ⟨w.heap.size, 6, none⟩ = some (.slice (some ⟨b, 0, none⟩) 3 3) := by rw [hW0]; simp [go_sem]
  have gp := lt_of_cell p0
  have HW0 := hid hW0
  obtain ⟨N, hN⟩ : ∃ N, n + 1 = N := ⟨_, rfl⟩
  rw [hN] at HOK ⊢
  have wN : IntKind.i64.wrap ((n : Int) + 1) = (N : Int) := by rw [IntKind.wrap_i64]; omega
  clear hT hG hk hW0 hN
  go_enter Try.func65, Try.ntmps65
  go_upto_region 1 with (fail)
  rw [← HW0.out]
  clear HW0
  go_upto_region 2 with (first | (go_at_call 84; refine (hpd _).mono ?_; rintro e w1 ⟨rfl, hb1⟩))
  obtain ⟨tb, htb⟩ : ∃ q, q = w1.heap.size := ⟨_, rfl⟩
  obtain ⟨W2, hW2⟩ : ∃ X, X = w1.alloc (.cells #[.int .i64 (n : Int), .int .i64 (m : Int)] 150) := ⟨_, rfl⟩
  have hbW := below_then (below_then hB0 hb1) (by rw [hW2]; exact below_alloc _ _ : Below w1.heap.size w1 W2)
  have q0 : W2.cell? ⟨tb, 0, none⟩ = some (.int .i64 (n : Int)) := by rw [hW2, htb]; simp [go_sem]
  have q1 : W2.cell? ⟨tb, 1, none⟩ = some (.int .i64 (m : Int)) := by rw [hW2, htb]; simp [go_sem]
  have gq := lt_of_cell q0
  rw [← hW2, ← htb]
  have hal2 := hal tb W2 hbW q1
  clear hW2 htb hal hpd
  by_cases he : t = N
  · have q : ((t : Int) == (N : Int)) = true := by simp [he]
    have HO2 : Hid (coversM N (m + 1) T = v) := hid (by rw [HOK.out]; simp [he])
    clear he
    go_wp2_with (first | (go_at_call 89; refine hal2.mono ?_; rintro e w' ⟨rfl, hb⟩))
    go_ret
    exact ⟨by rw [HO2.out]; rfl, below_then hbW hb⟩
  · have q : ((t : Int) == (N : Int)) = false := by simp; omega
    have HO2 : Hid (coversM N (m + 1) T = false) := hid (by rw [HOK.out]; simp [he])
    clear he
    go_wp2_with fail
    go_ret
    exact ⟨by rw [HO2.out]; rfl, hbW⟩

end Go.Proofs.Ytohahlnhbppnhaa
