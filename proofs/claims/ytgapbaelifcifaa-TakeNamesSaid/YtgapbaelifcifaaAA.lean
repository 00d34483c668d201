/- Contract of the service's method mayHave. -/
import Derived.Test.YtgapbaelifcifaaY
namespace Go.Proofs.Ytgapbaelifcifaa
open Go.RowKit

def mayM (s : Sv) (C : List (Int × Int × Int)) (T : List (Int × Int)) (H : List Nat) (k r : Nat) : Bool := decide (H.getD r 0 ≤ k) && decide (latestM s C T k r ≤ (T.getD k (0, 0)).2 + s.due)


set_option maxRecDepth 100000 in
set_option maxHeartbeats 1000000 in
theorem mayHave_0 (S : Sv) (C : List (Int × Int × Int)) (T : List (Int × Int)) (len long short due delay : Int) (pa ca ta : Option Addr) (pn pc cn cc tn tc : Nat) (hS : S = ⟨len, long, short, due, delay, pa, ca, ta, pn, pc, cn, cc, tn, tc⟩) (h0 h1 h2 h3 h4 k : Nat) (w : World) (hs : SvOk S C T w) (hk : k < tn) (hr : 0 < cn) :
    Calls Try.prog 60 #[.agg #[.int .i64 len, .slice pa pn pc, .int .i64 long, .int .i64 short, .slice ca cn cc, .int .i64 due, .int .i64 delay, .slice ta tn tc], .agg #[.int .i64 (h0 : Int), .int .i64 (h1 : Int), .int .i64 (h2 : Int), .int .i64 (h3 : Int), .int .i64 (h4 : Int)], .int .i64 (k : Int), .int .i64 0] w fun e w' => e = .returned (.bool (mayM S C T [h0, h1, h2, h3, h4] k 0)) ∧ Below w.heap.size w w' := by
  have hLB := latestM_bd hs (k := k) (r := 0) (by rw [hS]; exact hk) (by rw [hS]; exact hr)
  have hA : Hid (mayM S C T [h0, h1, h2, h3, h4] k 0 = (decide (h0 ≤ k) && decide (latestM S C T k 0 ≤ (T.getD k (0, 0)).2 + due))) := hid (by rw [hS]; rfl)
  have hlat : ∀ W, SvOk S C T W → Calls Try.prog 77 #[.agg #[.int .i64 len, .slice pa pn pc, .int .i64 long, .int .i64 short, .slice ca cn cc, .int .i64 due, .int .i64 delay, .slice ta tn tc], .int .i64 (k : Int), .int .i64 0] W fun e w' => e = .returned (.int .i64 (latestM S C T k 0)) ∧ Below W.heap.size W w' := fun W h => by
    have := latest_any S C T k 0 W h (by rw [hS]; exact hk) (by rw [hS]; exact hr)
    rw [hS] at this ⊢
    exact this
  generalize mayM S C T [h0, h1, h2, h3, h4] k 0 = m at hA ⊢
  generalize latestM S C T k 0 = L at hA hlat hLB
  have hbT := hs.bT k (by rw [hS]; exact hk)
  have hdue : 0 ≤ due ∧ due ≤ 36000 := by have := hs.due; rw [hS] at this; exact this
  obtain ⟨b, off, hta, e1, e2⟩ := hs.takes k (by rw [hs.tn, hS]; exact hk)
  generalize T.getD k (0, 0) = x at e1 e2 hA hbT
  obtain ⟨x1, x2⟩ := x
  have hta' : ta = some ⟨b, off, none⟩ := by rw [hS] at hta; exact hta
  simp only at e1 e2 hA hbT
  have h5 : cn ≤ 5 := by have := hs.c5; rw [hS] at this; exact this
  have h40 : tn ≤ 40 := by have := hs.t40; rw [hS] at this; exact this
  clear hta
  subst hta'
  clear hS
  have gb := lt_of_cell e1
  by_cases hle : h0 ≤ k
  · have HM : Hid (m = decide (L ≤ x2 + due)) := hid (by rw [hA.out]; simp [hle])
    clear hA
    have hle' : ((h0 : Nat) : Int) ≤ (k : Int) := by omega
    go_enter Try.func60, Try.ntmps60
    go_wp2_with fail
    obtain ⟨W1, hW1⟩ : ∃ W, W = (w.alloc (.cells #[.int .i64 len, .slice pa pn pc, .int .i64 long, .int .i64 short, .slice ca cn cc, .int .i64 due, .int .i64 delay, .slice (some ⟨b, off, none⟩) tn tc] 106)).alloc (.cells #[.int .i64 (h0 : Int), .int .i64 (h1 : Int), .int .i64 (h2 : Int), .int .i64 (h3 : Int), .int .i64 (h4 : Int)] 130) := ⟨_, rfl⟩
    have hB1 : Below w.heap.size w W1 := by rw [hW1]; exact ((Below.refl _ _).alloc (Nat.le_refl _) _).alloc (by simp) _
    have zW1 : w.heap.size + 1 < W1.heap.size := by rw [hW1]; simp
    have y0 : W1.cell? ⟨w.heap.size, 0, none⟩ = some (.int .i64 len) := by rw [hW1]; simp [go_sem]
    have y1 : W1.cell? ⟨w.heap.size, 1, none⟩ = some (.slice pa pn pc) := by rw [hW1]; simp [go_sem]
    have y2 : W1.cell? ⟨w.heap.size, 2, none⟩ = some (.int .i64 long) := by rw [hW1]; simp [go_sem]
    have y3 : W1.cell? ⟨w.heap.size, 3, none⟩ = some (.int .i64 short) := by rw [hW1]; simp [go_sem]
    have y4 : W1.cell? ⟨w.heap.size, 4, none⟩ = some (.slice ca cn cc) := by rw [hW1]; simp [go_sem]
    have y5 : W1.cell? ⟨w.heap.size, 5, none⟩ = some (.int .i64 due) := by rw [hW1]; simp [go_sem]
    have y6 : W1.cell? ⟨w.heap.size, 6, none⟩ = some (.int .i64 delay) := by rw [hW1]; simp [go_sem]
    have y7 : W1.cell? ⟨w.heap.size, 7, none⟩ = some (.slice (some ⟨b, off, none⟩) tn tc) := by rw [hW1]; simp [go_sem]
    have x0 : W1.cell? ⟨w.heap.size + 1, 0, none⟩ = some (.int .i64 (h0 : Int)) := by rw [hW1]; simp [go_sem]
    have g2 := cell_grown hB1 e2
    rw [← hW1]
    have hs1 := hs.grown hB1
    clear hW1 hs
    go_region_held3 (fun w' => w'.cell? ⟨w.heap.size, 0, none⟩ = some (.int .i64 len) ∧ w'.cell? ⟨w.heap.size, 1, none⟩ = some (.slice pa pn pc) ∧ w'.cell? ⟨w.heap.size, 2, none⟩ = some (.int .i64 long) ∧ w'.cell? ⟨w.heap.size, 3, none⟩ = some (.int .i64 short) ∧ w'.cell? ⟨w.heap.size, 4, none⟩ = some (.slice ca cn cc) ∧ w'.cell? ⟨w.heap.size, 5, none⟩ = some (.int .i64 due) ∧ w'.cell? ⟨w.heap.size, 6, none⟩ = some (.int .i64 delay) ∧ w'.cell? ⟨w.heap.size, 7, none⟩ = some (.slice (some ⟨b, off, none⟩) tn tc) ∧ w'.cell? ⟨b, off + k * 2 + 1, none⟩ = some (.int .i64 x2) ∧ w'.cell? ⟨w.heap.size + 1, 0, none⟩ = some (.int .i64 (h0 : Int)))
      (first | go_keep | exact ⟨cell_grown hb2 y0, cell_grown hb2 y1, cell_grown hb2 y2, cell_grown hb2 y3, cell_grown hb2 y4, cell_grown hb2 y5, cell_grown hb2 y6, cell_grown hb2 y7, cell_grown hb2 g2, cell_grown hb2 x0⟩)
      (first | (go_at_call 77; refine (hlat _ (hs1.grown (below_drewN (Below.refl _ _) 1))).mono ?_; rintro e w2 ⟨rfl, hb2⟩))
    all_goals
      go_wp2
      go_ret
      have hwr : IntKind.i64.wrap (x2 + due) = x2 + due := IntWalk.i64_in _ (by omega)
      exact ⟨by rw [HM.out]; simp [hwr], (below_drewN hB1 1).trans (hb2.mono (show w.heap.size ≤ W1.heap.size from by omega))⟩
  · have HM : Hid (m = false) := hid (by rw [hA.out]; simp [hle])
    clear hA
    have hle' : decide (((h0 : Nat) : Int) ≤ (k : Int)) = false := by simp; omega
    go_enter Try.func60, Try.ntmps60
    go_wp2_with fail
    go_quiet (fail)
    go_wp2
    go_ret
    exact ⟨by rw [HM.out]; rfl, below_drewN (((Below.refl _ _).alloc (Nat.le_refl _) _).alloc (by simp) _) _⟩

set_option maxRecDepth 100000 in
set_option maxHeartbeats 1000000 in
theorem mayHave_1 (S : Sv) (C : List (Int × Int × Int)) (T : List (Int × Int)) (len long short due delay : Int) (pa ca ta : Option Addr) (pn pc cn cc tn tc : Nat) (hS : S = ⟨len, long, short, due, delay, pa, ca, ta, pn, pc, cn, cc, tn, tc⟩) (h0 h1 h2 h3 h4 k : Nat) (w : World) (hs : SvOk S C T w) (hk : k < tn) (hr : 1 < cn) :
    Calls Try.prog 60 #[.agg #[.int .i64 len, .slice pa pn pc, .int .i64 long, .int .i64 short, .slice ca cn cc, .int .i64 due, .int .i64 delay, .slice ta tn tc], .agg #[.int .i64 (h0 : Int), .int .i64 (h1 : Int), .int .i64 (h2 : Int), .int .i64 (h3 : Int), .int .i64 (h4 : Int)], .int .i64 (k : Int), .int .i64 1] w fun e w' => e = .returned (.bool (mayM S C T [h0, h1, h2, h3, h4] k 1)) ∧ Below w.heap.size w w' := by
  have hLB := latestM_bd hs (k := k) (r := 1) (by rw [hS]; exact hk) (by rw [hS]; exact hr)
  have hA : Hid (mayM S C T [h0, h1, h2, h3, h4] k 1 = (decide (h1 ≤ k) && decide (latestM S C T k 1 ≤ (T.getD k (0, 0)).2 + due))) := hid (by rw [hS]; rfl)
  have hlat : ∀ W, SvOk S C T W → Calls Try.prog 77 #[.agg #[.int .i64 len, .slice pa pn pc, .int .i64 long, .int .i64 short, .slice ca cn cc, .int .i64 due, .int .i64 delay, .slice ta tn tc], .int .i64 (k : Int), .int .i64 1] W fun e w' => e = .returned (.int .i64 (latestM S C T k 1)) ∧ Below W.heap.size W w' := fun W h => by
    have := latest_any S C T k 1 W h (by rw [hS]; exact hk) (by rw [hS]; exact hr)
    rw [hS] at this ⊢
    exact this
  generalize mayM S C T [h0, h1, h2, h3, h4] k 1 = m at hA ⊢
  generalize latestM S C T k 1 = L at hA hlat hLB
  have hbT := hs.bT k (by rw [hS]; exact hk)
  have hdue : 0 ≤ due ∧ due ≤ 36000 := by have := hs.due; rw [hS] at this; exact this
  obtain ⟨b, off, hta, e1, e2⟩ := hs.takes k (by rw [hs.tn, hS]; exact hk)
  generalize T.getD k (0, 0) = x at e1 e2 hA hbT
  obtain ⟨x1, x2⟩ := x
  have hta' : ta = some ⟨b, off, none⟩ := by rw [hS] at hta; exact hta
  simp only at e1 e2 hA hbT
  have h5 : cn ≤ 5 := by have := hs.c5; rw [hS] at this; exact this
  have h40 : tn ≤ 40 := by have := hs.t40; rw [hS] at this; exact this
  clear hta
  subst hta'
  clear hS
  have gb := lt_of_cell e1
  by_cases hle : h1 ≤ k
  · have HM : Hid (m = decide (L ≤ x2 + due)) := hid (by rw [hA.out]; simp [hle])
    clear hA
    have hle' : ((h1 : Nat) : Int) ≤ (k : Int) := by omega
    go_enter Try.func60, Try.ntmps60
    go_wp2_with fail
    obtain ⟨W1, hW1⟩ : ∃ W, W = (w.alloc (.cells #[.int .i64 len, .slice pa pn pc, .int .i64 long, .int .i64 short, .slice ca cn cc, .int .i64 due, .int .i64 delay, .slice (some ⟨b, off, none⟩) tn tc] 106)).alloc (.cells #[.int .i64 (h0 : Int), .int .i64 (h1 : Int), .int .i64 (h2 : Int), .int .i64 (h3 : Int), .int .i64 (h4 : Int)] 130) := ⟨_, rfl⟩
    have hB1 : Below w.heap.size w W1 := by rw [hW1]; exact ((Below.refl _ _).alloc (Nat.le_refl _) _).alloc (by simp) _
    have zW1 : w.heap.size + 1 < W1.heap.size := by rw [hW1]; simp
    have y0 : W1.cell? ⟨w.heap.size, 0, none⟩ = some (.int .i64 len) := by rw [hW1]; simp [go_sem]
    have y1 : W1.cell? ⟨w.heap.size, 1, none⟩ = some (.slice pa pn pc) := by rw [hW1]; simp [go_sem]
    have y2 : W1.cell? ⟨w.heap.size, 2, none⟩ = some (.int .i64 long) := by rw [hW1]; simp [go_sem]
    have y3 : W1.cell? ⟨w.heap.size, 3, none⟩ = some (.int .i64 short) := by rw [hW1]; simp [go_sem]
    have y4 : W1.cell? ⟨w.heap.size, 4, none⟩ = some (.slice ca cn cc) := by rw [hW1]; simp [go_sem]
    have y5 : W1.cell? ⟨w.heap.size, 5, none⟩ = some (.int .i64 due) := by rw [hW1]; simp [go_sem]
    have y6 : W1.cell? ⟨w.heap.size, 6, none⟩ = some (.int .i64 delay) := by rw [hW1]; simp [go_sem]
    have y7 : W1.cell? ⟨w.heap.size, 7, none⟩ = some (.slice (some ⟨b, off, none⟩) tn tc) := by rw [hW1]; simp [go_sem]
    have x0 : W1.cell? ⟨w.heap.size + 1, 1, none⟩ = some (.int .i64 (h1 : Int)) := by rw [hW1]; simp [go_sem]
    have g2 := cell_grown hB1 e2
    rw [← hW1]
    have hs1 := hs.grown hB1
    clear hW1 hs
    go_region_held3 (fun w' => w'.cell? ⟨w.heap.size, 0, none⟩ = some (.int .i64 len) ∧ w'.cell? ⟨w.heap.size, 1, none⟩ = some (.slice pa pn pc) ∧ w'.cell? ⟨w.heap.size, 2, none⟩ = some (.int .i64 long) ∧ w'.cell? ⟨w.heap.size, 3, none⟩ = some (.int .i64 short) ∧ w'.cell? ⟨w.heap.size, 4, none⟩ = some (.slice ca cn cc) ∧ w'.cell? ⟨w.heap.size, 5, none⟩ = some (.int .i64 due) ∧ w'.cell? ⟨w.heap.size, 6, none⟩ = some (.int .i64 delay) ∧ w'.cell? ⟨w.heap.size, 7, none⟩ = some (.slice (some ⟨b, off, none⟩) tn tc) ∧ w'.cell? ⟨b, off + k * 2 + 1, none⟩ = some (.int .i64 x2) ∧ w'.cell? ⟨w.heap.size + 1, 1, none⟩ = some (.int .i64 (h1 : Int)))
      (first | go_keep | exact ⟨cell_grown hb2 y0, cell_grown hb2 y1, cell_grown hb2 y2, cell_grown hb2 y3, cell_grown hb2 y4, cell_grown hb2 y5, cell_grown hb2 y6, cell_grown hb2 y7, cell_grown hb2 g2, cell_grown hb2 x0⟩)
      (first | (go_at_call 77; refine (hlat _ (hs1.grown (below_drewN (Below.refl _ _) 1))).mono ?_; rintro e w2 ⟨rfl, hb2⟩))
    all_goals
      go_wp2
      go_ret
      have hwr : IntKind.i64.wrap (x2 + due) = x2 + due := IntWalk.i64_in _ (by omega)
      exact ⟨by rw [HM.out]; simp [hwr], (below_drewN hB1 1).trans (hb2.mono (show w.heap.size ≤ W1.heap.size from by omega))⟩
  · have HM : Hid (m = false) := hid (by rw [hA.out]; simp [hle])
    clear hA
    have hle' : decide (((h1 : Nat) : Int) ≤ (k : Int)) = false := by simp; omega
    go_enter Try.func60, Try.ntmps60
    go_wp2_with fail
    go_quiet (fail)
    go_wp2
    go_ret
    exact ⟨by rw [HM.out]; rfl, below_drewN (((Below.refl _ _).alloc (Nat.le_refl _) _).alloc (by simp) _) _⟩

set_option maxRecDepth 100000 in
set_option maxHeartbeats 1000000 in
theorem mayHave_2 (S : Sv) (C : List (Int × Int × Int)) (T : List (Int × Int)) (len long short due delay : Int) (pa ca ta : Option Addr) (pn pc cn cc tn tc : Nat) (hS : S = ⟨len, long, short, due, delay, pa, ca, ta, pn, pc, cn, cc, tn, tc⟩) (h0 h1 h2 h3 h4 k : Nat) (w : World) (hs : SvOk S C T w) (hk : k < tn) (hr : 2 < cn) :
    Calls Try.prog 60 #[.agg #[.int .i64 len, .slice pa pn pc, .int .i64 long, .int .i64 short, .slice ca cn cc, .int .i64 due, .int .i64 delay, .slice ta tn tc], .agg #[.int .i64 (h0 : Int), .int .i64 (h1 : Int), .int .i64 (h2 : Int), .int .i64 (h3 : Int), .int .i64 (h4 : Int)], .int .i64 (k : Int), .int .i64 2] w fun e w' => e = .returned (.bool (mayM S C T [h0, h1, h2, h3, h4] k 2)) ∧ Below w.heap.size w w' := by
  have hLB := latestM_bd hs (k := k) (r := 2) (by rw [hS]; exact hk) (by rw [hS]; exact hr)
  have hA : Hid (mayM S C T [h0, h1, h2, h3, h4] k 2 = (decide (h2 ≤ k) && decide (latestM S C T k 2 ≤ (T.getD k (0, 0)).2 + due))) := hid (by rw [hS]; rfl)
  have hlat : ∀ W, SvOk S C T W → Calls Try.prog 77 #[.agg #[.int .i64 len, .slice pa pn pc, .int .i64 long, .int .i64 short, .slice ca cn cc, .int .i64 due, .int .i64 delay, .slice ta tn tc], .int .i64 (k : Int), .int .i64 2] W fun e w' => e = .returned (.int .i64 (latestM S C T k 2)) ∧ Below W.heap.size W w' := fun W h => by
    have := latest_any S C T k 2 W h (by rw [hS]; exact hk) (by rw [hS]; exact hr)
    rw [hS] at this ⊢
    exact this
  generalize mayM S C T [h0, h1, h2, h3, h4] k 2 = m at hA ⊢
  generalize latestM S C T k 2 = L at hA hlat hLB
  have hbT := hs.bT k (by rw [hS]; exact hk)
  have hdue : 0 ≤ due ∧ due ≤ 36000 := by have := hs.due; rw [hS] at this; exact this
  obtain ⟨b, off, hta, e1, e2⟩ := hs.takes k (by rw [hs.tn, hS]; exact hk)
  generalize T.getD k (0, 0) = x at e1 e2 hA hbT
  obtain ⟨x1, x2⟩ := x
  have hta' : ta = some ⟨b, off, none⟩ := by rw [hS] at hta; exact hta
  simp only at e1 e2 hA hbT
  have h5 : cn ≤ 5 := by have := hs.c5; rw [hS] at this; exact this
  have h40 : tn ≤ 40 := by have := hs.t40; rw [hS] at this; exact this
  clear hta
  subst hta'
  clear hS
  have gb := lt_of_cell e1
  by_cases hle : h2 ≤ k
  · have HM : Hid (m = decide (L ≤ x2 + due)) := hid (by rw [hA.out]; simp [hle])
    clear hA
    have hle' : ((h2 : Nat) : Int) ≤ (k : Int) := by omega
    go_enter Try.func60, Try.ntmps60
    go_wp2_with fail
    obtain ⟨W1, hW1⟩ : ∃ W, W = (w.alloc (.cells #[.int .i64 len, .slice pa pn pc, .int .i64 long, .int .i64 short, .slice ca cn cc, .int .i64 due, .int .i64 delay, .slice (some ⟨b, off, none⟩) tn tc] 106)).alloc (.cells #[.int .i64 (h0 : Int), .int .i64 (h1 : Int), .int .i64 (h2 : Int), .int .i64 (h3 : Int), .int .i64 (h4 : Int)] 130) := ⟨_, rfl⟩
    have hB1 : Below w.heap.size w W1 := by rw [hW1]; exact ((Below.refl _ _).alloc (Nat.le_refl _) _).alloc (by simp) _
    have zW1 : w.heap.size + 1 < W1.heap.size := by rw [hW1]; simp
    have y0 : W1.cell? ⟨w.heap.size, 0, none⟩ = some (.int .i64 len) := by rw [hW1]; simp [go_sem]
    have y1 : W1.cell? ⟨w.heap.size, 1, none⟩ = some (.slice pa pn pc) := by rw [hW1]; simp [go_sem]
    have y2 : W1.cell? ⟨w.heap.size, 2, none⟩ = some (.int .i64 long) := by rw [hW1]; simp [go_sem]
    have y3 : W1.cell? ⟨w.heap.size, 3, none⟩ = some (.int .i64 short) := by rw [hW1]; simp [go_sem]
    have y4 : W1.cell? ⟨w.heap.size, 4, none⟩ = some (.slice ca cn cc) := by rw [hW1]; simp [go_sem]
    have y5 : W1.cell? ⟨w.heap.size, 5, none⟩ = some (.int .i64 due) := by rw [hW1]; simp [go_sem]
    have y6 : W1.cell? ⟨w.heap.size, 6, none⟩ = some (.int .i64 delay) := by rw [hW1]; simp [go_sem]
    have y7 : W1.cell? ⟨w.heap.size, 7, none⟩ = some (.slice (some ⟨b, off, none⟩) tn tc) := by rw [hW1]; simp [go_sem]
    have x0 : W1.cell? ⟨w.heap.size + 1, 2, none⟩ = some (.int .i64 (h2 : Int)) := by rw [hW1]; simp [go_sem]
    have g2 := cell_grown hB1 e2
    rw [← hW1]
    have hs1 := hs.grown hB1
    clear hW1 hs
    go_region_held3 (fun w' => w'.cell? ⟨w.heap.size, 0, none⟩ = some (.int .i64 len) ∧ w'.cell? ⟨w.heap.size, 1, none⟩ = some (.slice pa pn pc) ∧ w'.cell? ⟨w.heap.size, 2, none⟩ = some (.int .i64 long) ∧ w'.cell? ⟨w.heap.size, 3, none⟩ = some (.int .i64 short) ∧ w'.cell? ⟨w.heap.size, 4, none⟩ = some (.slice ca cn cc) ∧ w'.cell? ⟨w.heap.size, 5, none⟩ = some (.int .i64 due) ∧ w'.cell? ⟨w.heap.size, 6, none⟩ = some (.int .i64 delay) ∧ w'.cell? ⟨w.heap.size, 7, none⟩ = some (.slice (some ⟨b, off, none⟩) tn tc) ∧ w'.cell? ⟨b, off + k * 2 + 1, none⟩ = some (.int .i64 x2) ∧ w'.cell? ⟨w.heap.size + 1, 2, none⟩ = some (.int .i64 (h2 : Int)))
      (first | go_keep | exact ⟨cell_grown hb2 y0, cell_grown hb2 y1, cell_grown hb2 y2, cell_grown hb2 y3, cell_grown hb2 y4, cell_grown hb2 y5, cell_grown hb2 y6, cell_grown hb2 y7, cell_grown hb2 g2, cell_grown hb2 x0⟩)
      (first | (go_at_call 77; refine (hlat _ (hs1.grown (below_drewN (Below.refl _ _) 1))).mono ?_; rintro e w2 ⟨rfl, hb2⟩))
    all_goals
      go_wp2
      go_ret
      have hwr : IntKind.i64.wrap (x2 + due) = x2 + due := IntWalk.i64_in _ (by omega)
      exact ⟨by rw [HM.out]; simp [hwr], (below_drewN hB1 1).trans (hb2.mono (show w.heap.size ≤ W1.heap.size from by omega))⟩
  · have HM : Hid (m = false) := hid (by rw [hA.out]; simp [hle])
    clear hA
    have hle' : decide (((h2 : Nat) : Int) ≤ (k : Int)) = false := by simp; omega
    go_enter Try.func60, Try.ntmps60
    go_wp2_with fail
    go_quiet (fail)
    go_wp2
    go_ret
    exact ⟨by rw [HM.out]; rfl, below_drewN (((Below.refl _ _).alloc (Nat.le_refl _) _).alloc (by simp) _) _⟩

set_option maxRecDepth 100000 in
set_option maxHeartbeats 1000000 in
theorem mayHave_3 (S : Sv) (C : List (Int × Int × Int)) (T : List (Int × Int)) (len long short due delay : Int) (pa ca ta : Option Addr) (pn pc cn cc tn tc : Nat) (hS : S = ⟨len, long, short, due, delay, pa, ca, ta, pn, pc, cn, cc, tn, tc⟩) (h0 h1 h2 h3 h4 k : Nat) (w : World) (hs : SvOk S C T w) (hk : k < tn) (hr : 3 < cn) :
    Calls Try.prog 60 #[.agg #[.int .i64 len, .slice pa pn pc, .int .i64 long, .int .i64 short, .slice ca cn cc, .int .i64 due, .int .i64 delay, .slice ta tn tc], .agg #[.int .i64 (h0 : Int), .int .i64 (h1 : Int), .int .i64 (h2 : Int), .int .i64 (h3 : Int), .int .i64 (h4 : Int)], .int .i64 (k : Int), .int .i64 3] w fun e w' => e = .returned (.bool (mayM S C T [h0, h1, h2, h3, h4] k 3)) ∧ Below w.heap.size w w' := by
  have hLB := latestM_bd hs (k := k) (r := 3) (by rw [hS]; exact hk) (by rw [hS]; exact hr)
  have hA : Hid (mayM S C T [h0, h1, h2, h3, h4] k 3 = (decide (h3 ≤ k) && decide (latestM S C T k 3 ≤ (T.getD k (0, 0)).2 + due))) := hid (by rw [hS]; rfl)
  have hlat : ∀ W, SvOk S C T W → Calls Try.prog 77 #[.agg #[.int .i64 len, .slice pa pn pc, .int .i64 long, .int .i64 short, .slice ca cn cc, .int .i64 due, .int .i64 delay, .slice ta tn tc], .int .i64 (k : Int), .int .i64 3] W fun e w' => e = .returned (.int .i64 (latestM S C T k 3)) ∧ Below W.heap.size W w' := fun W h => by
    have := latest_any S C T k 3 W h (by rw [hS]; exact hk) (by rw [hS]; exact hr)
    rw [hS] at this ⊢
    exact this
  generalize mayM S C T [h0, h1, h2, h3, h4] k 3 = m at hA ⊢
  generalize latestM S C T k 3 = L at hA hlat hLB
  have hbT := hs.bT k (by rw [hS]; exact hk)
  have hdue : 0 ≤ due ∧ due ≤ 36000 := by have := hs.due; rw [hS] at this; exact this
  obtain ⟨b, off, hta, e1, e2⟩ := hs.takes k (by rw [hs.tn, hS]; exact hk)
  generalize T.getD k (0, 0) = x at e1 e2 hA hbT
  obtain ⟨x1, x2⟩ := x
  have hta' : ta = some ⟨b, off, none⟩ := by rw [hS] at hta; exact hta
  simp only at e1 e2 hA hbT
  have h5 : cn ≤ 5 := by have := hs.c5; rw [hS] at this; exact this
  have h40 : tn ≤ 40 := by have := hs.t40; rw [hS] at this; exact this
  clear hta
  subst hta'
  clear hS
  have gb := lt_of_cell e1
  by_cases hle : h3 ≤ k
  · have HM : Hid (m = decide (L ≤ x2 + due)) := hid (by rw [hA.out]; simp [hle])
    clear hA
    have hle' : ((h3 : Nat) : Int) ≤ (k : Int) := by omega
    go_enter Try.func60, Try.ntmps60
    go_wp2_with fail
    obtain ⟨W1, hW1⟩ : ∃ W, W = (w.alloc (.cells #[.int .i64 len, .slice pa pn pc, .int .i64 long, .int .i64 short, .slice ca cn cc, .int .i64 due, .int .i64 delay, .slice (some ⟨b, off, none⟩) tn tc] 106)).alloc (.cells #[.int .i64 (h0 : Int), .int .i64 (h1 : Int), .int .i64 (h2 : Int), .int .i64 (h3 : Int), .int .i64 (h4 : Int)] 130) := ⟨_, rfl⟩
    have hB1 : Below w.heap.size w W1 := by rw [hW1]; exact ((Below.refl _ _).alloc (Nat.le_refl _) _).alloc (by simp) _
    have zW1 : w.heap.size + 1 < W1.heap.size := by rw [hW1]; simp
    have y0 : W1.cell? ⟨w.heap.size, 0, none⟩ = some (.int .i64 len) := by rw [hW1]; simp [go_sem]
    have y1 : W1.cell? ⟨w.heap.size, 1, none⟩ = some (.slice pa pn pc) := by rw [hW1]; simp [go_sem]
    have y2 : W1.cell? ⟨w.heap.size, 2, none⟩ = some (.int .i64 long) := by rw [hW1]; simp [go_sem]
    have y3 : W1.cell? ⟨w.heap.size, 3, none⟩ = some (.int .i64 short) := by rw [hW1]; simp [go_sem]
    have y4 : W1.cell? ⟨w.heap.size, 4, none⟩ = some (.slice ca cn cc) := by rw [hW1]; simp [go_sem]
    have y5 : W1.cell? ⟨w.heap.size, 5, none⟩ = some (.int .i64 due) := by rw [hW1]; simp [go_sem]
    have y6 : W1.cell? ⟨w.heap.size, 6, none⟩ = some (.int .i64 delay) := by rw [hW1]; simp [go_sem]
    have y7 : W1.cell? ⟨w.heap.size, 7, none⟩ = some (.slice (some ⟨b, off, none⟩) tn tc) := by rw [hW1]; simp [go_sem]
    have x0 : W1.cell? ⟨w.heap.size + 1, 3, none⟩ = some (.int .i64 (h3 : Int)) := by rw [hW1]; simp [go_sem]
    have g2 := cell_grown hB1 e2
    rw [← hW1]
    have hs1 := hs.grown hB1
    clear hW1 hs
    go_region_held3 (fun w' => w'.cell? ⟨w.heap.size, 0, none⟩ = some (.int .i64 len) ∧ w'.cell? ⟨w.heap.size, 1, none⟩ = some (.slice pa pn pc) ∧ w'.cell? ⟨w.heap.size, 2, none⟩ = some (.int .i64 long) ∧ w'.cell? ⟨w.heap.size, 3, none⟩ = some (.int .i64 short) ∧ w'.cell? ⟨w.heap.size, 4, none⟩ = some (.slice ca cn cc) ∧ w'.cell? ⟨w.heap.size, 5, none⟩ = some (.int .i64 due) ∧ w'.cell? ⟨w.heap.size, 6, none⟩ = some (.int .i64 delay) ∧ w'.cell? ⟨w.heap.size, 7, none⟩ = some (.slice (some ⟨b, off, none⟩) tn tc) ∧ w'.cell? ⟨b, off + k * 2 + 1, none⟩ = some (.int .i64 x2) ∧ w'.cell? ⟨w.heap.size + 1, 3, none⟩ = some (.int .i64 (h3 : Int)))
      (first | go_keep | exact ⟨cell_grown hb2 y0, cell_grown hb2 y1, cell_grown hb2 y2, cell_grown hb2 y3, cell_grown hb2 y4, cell_grown hb2 y5, cell_grown hb2 y6, cell_grown hb2 y7, cell_grown hb2 g2, cell_grown hb2 x0⟩)
      (first | (go_at_call 77; refine (hlat _ (hs1.grown (below_drewN (Below.refl _ _) 1))).mono ?_; rintro e w2 ⟨rfl, hb2⟩))
    all_goals
      go_wp2
      go_ret
      have hwr : IntKind.i64.wrap (x2 + due) = x2 + due := IntWalk.i64_in _ (by omega)
      exact ⟨by rw [HM.out]; simp [hwr], (below_drewN hB1 1).trans (hb2.mono (show w.heap.size ≤ W1.heap.size from by omega))⟩
  · have HM : Hid (m = false) := hid (by rw [hA.out]; simp [hle])
    clear hA
    have hle' : decide (((h3 : Nat) : Int) ≤ (k : Int)) = false := by simp; omega
    go_enter Try.func60, Try.ntmps60
    go_wp2_with fail
    go_quiet (fail)
    go_wp2
    go_ret
    exact ⟨by rw [HM.out]; rfl, below_drewN (((Below.refl _ _).alloc (Nat.le_refl _) _).alloc (by simp) _) _⟩

set_option maxRecDepth 100000 in
set_option maxHeartbeats 1000000 in
theorem mayHave_4 (S : Sv) (C : List (Int × Int × Int)) (T : List (Int × Int)) (len long short due delay : Int) (pa ca ta : Option Addr) (pn pc cn cc tn tc : Nat) (hS : S = ⟨len, long, short, due, delay, pa, ca, ta, pn, pc, cn, cc, tn, tc⟩) (h0 h1 h2 h3 h4 k : Nat) (w : World) (hs : SvOk S C T w) (hk : k < tn) (hr : 4 < cn) :
    Calls Try.prog 60 #[.agg #[.int .i64 len, .slice pa pn pc, .int .i64 long, .int .i64 short, .slice ca cn cc, .int .i64 due, .int .i64 delay, .slice ta tn tc], .agg #[.int .i64 (h0 : Int), .int .i64 (h1 : Int), .int .i64 (h2 : Int), .int .i64 (h3 : Int), .int .i64 (h4 : Int)], .int .i64 (k : Int), .int .i64 4] w fun e w' => e = .returned (.bool (mayM S C T [h0, h1, h2, h3, h4] k 4)) ∧ Below w.heap.size w w' := by
  have hLB := latestM_bd hs (k := k) (r := 4) (by rw [hS]; exact hk) (by rw [hS]; exact hr)
  have hA : Hid (mayM S C T [h0, h1, h2, h3, h4] k 4 = (decide (h4 ≤ k) && decide (latestM S C T k 4 ≤ (T.getD k (0, 0)).2 + due))) := hid (by rw [hS]; rfl)
  have hlat : ∀ W, SvOk S C T W → Calls Try.prog 77 #[.agg #[.int .i64 len, .slice pa pn pc, .int .i64 long, .int .i64 short, .slice ca cn cc, .int .i64 due, .int .i64 delay, .slice ta tn tc], .int .i64 (k : Int), .int .i64 4] W fun e w' => e = .returned (.int .i64 (latestM S C T k 4)) ∧ Below W.heap.size W w' := fun W h => by
    have := latest_any S C T k 4 W h (by rw [hS]; exact hk) (by rw [hS]; exact hr)
    rw [hS] at this ⊢
    exact this
  generalize mayM S C T [h0, h1, h2, h3, h4] k 4 = m at hA ⊢
  generalize latestM S C T k 4 = L at hA hlat hLB
  have hbT := hs.bT k (by rw [hS]; exact hk)
  have hdue : 0 ≤ due ∧ due ≤ 36000 := by have := hs.due; rw [hS] at this; exact this
  obtain ⟨b, off, hta, e1, e2⟩ := hs.takes k (by rw [hs.tn, hS]; exact hk)
  generalize T.getD k (0, 0) = x at e1 e2 hA hbT
  obtain ⟨x1, x2⟩ := x
  have hta' : ta = some ⟨b, off, none⟩ := by rw [hS] at hta; exact hta
  simp only at e1 e2 hA hbT
  have h5 : cn ≤ 5 := by have := hs.c5; rw [hS] at this; exact this
  have h40 : tn ≤ 40 := by have := hs.t40; rw [hS] at this; exact this
  clear hta
  subst hta'
  clear hS
  have gb := lt_of_cell e1
  by_cases hle : h4 ≤ k
  · have HM : Hid (m = decide (L ≤ x2 + due)) := hid (by rw [hA.out]; simp [hle])
    clear hA
    have hle' : ((h4 : Nat) : Int) ≤ (k : Int) := by omega
    go_enter Try.func60, Try.ntmps60
    go_wp2_with fail
    obtain ⟨W1, hW1⟩ : ∃ W, W = (w.alloc (.cells #[.int .i64 len, .slice pa pn pc, .int .i64 long, .int .i64 short, .slice ca cn cc, .int .i64 due, .int .i64 delay, .slice (some ⟨b, off, none⟩) tn tc] 106)).alloc (.cells #[.int .i64 (h0 : Int), .int .i64 (h1 : Int), .int .i64 (h2 : Int), .int .i64 (h3 : Int), .int .i64 (h4 : Int)] 130) := ⟨_, rfl⟩
    have hB1 : Below w.heap.size w W1 := by rw [hW1]; exact ((Below.refl _ _).alloc (Nat.le_refl _) _).alloc (by simp) _
    have zW1 : w.heap.size + 1 < W1.heap.size := by rw [hW1]; simp
    have y0 : W1.cell? ⟨w.heap.size, 0, none⟩ = some (.int .i64 len) := by rw [hW1]; simp [go_sem]
    have y1 : W1.cell? ⟨w.heap.size, 1, none⟩ = some (.slice pa pn pc) := by rw [hW1]; simp [go_sem]
    have y2 : W1.cell? ⟨w.heap.size, 2, none⟩ = some (.int .i64 long) := by rw [hW1]; simp [go_sem]
    have y3 : W1.cell? ⟨w.heap.size, 3, none⟩ = some (.int .i64 short) := by rw [hW1]; simp [go_sem]
    have y4 : W1.cell? ⟨w.heap.size, 4, none⟩ = some (.slice ca cn cc) := by rw [hW1]; simp [go_sem]
    have y5 : W1.cell? ⟨w.heap.size, 5, none⟩ = some (.int .i64 due) := by rw [hW1]; simp [go_sem]
    have y6 : W1.cell? ⟨w.heap.size, 6, none⟩ = some (.int .i64 delay) := by rw [hW1]; simp [go_sem]
    have y7 : W1.cell? ⟨w.heap.size, 7, none⟩ = some (.slice (some ⟨b, off, none⟩) tn tc) := by rw [hW1]; simp [go_sem]
    have x0 : W1.cell? ⟨w.heap.size + 1, 4, none⟩ = some (.int .i64 (h4 : Int)) := by rw [hW1]; simp [go_sem]
    have g2 := cell_grown hB1 e2
    rw [← hW1]
    have hs1 := hs.grown hB1
    clear hW1 hs
    go_region_held3 (fun w' => w'.cell? ⟨w.heap.size, 0, none⟩ = some (.int .i64 len) ∧ w'.cell? ⟨w.heap.size, 1, none⟩ = some (.slice pa pn pc) ∧ w'.cell? ⟨w.heap.size, 2, none⟩ = some (.int .i64 long) ∧ w'.cell? ⟨w.heap.size, 3, none⟩ = some (.int .i64 short) ∧ w'.cell? ⟨w.heap.size, 4, none⟩ = some (.slice ca cn cc) ∧ w'.cell? ⟨w.heap.size, 5, none⟩ = some (.int .i64 due) ∧ w'.cell? ⟨w.heap.size, 6, none⟩ = some (.int .i64 delay) ∧ w'.cell? ⟨w.heap.size, 7, none⟩ = some (.slice (some ⟨b, off, none⟩) tn tc) ∧ w'.cell? ⟨b, off + k * 2 + 1, none⟩ = some (.int .i64 x2) ∧ w'.cell? ⟨w.heap.size + 1, 4, none⟩ = some (.int .i64 (h4 : Int)))
      (first | go_keep | exact ⟨cell_grown hb2 y0, cell_grown hb2 y1, cell_grown hb2 y2, cell_grown hb2 y3, cell_grown hb2 y4, cell_grown hb2 y5, cell_grown hb2 y6, cell_grown hb2 y7, cell_grown hb2 g2, cell_grown hb2 x0⟩)
      (first | (go_at_call 77; refine (hlat _ (hs1.grown (below_drewN (Below.refl _ _) 1))).mono ?_; rintro e w2 ⟨rfl, hb2⟩))
    all_goals
      go_wp2
      go_ret
      have hwr : IntKind.i64.wrap (x2 + due) = x2 + due := IntWalk.i64_in _ (by omega)
      exact ⟨by rw [HM.out]; simp [hwr], (below_drewN hB1 1).trans (hb2.mono (show w.heap.size ≤ W1.heap.size from by omega))⟩
  · have HM : Hid (m = false) := hid (by rw [hA.out]; simp [hle])
    clear hA
    have hle' : decide (((h4 : Nat) : Int) ≤ (k : Int)) = false := by simp; omega
    go_enter Try.func60, Try.ntmps60
    go_wp2_with fail
    go_quiet (fail)
    go_wp2
    go_ret
    exact ⟨by rw [HM.out]; rfl, below_drewN (((Below.refl _ _).alloc (Nat.le_refl _) _).alloc (by simp) _) _⟩

theorem mayHave_any (s : Sv) (C : List (Int × Int × Int)) (T : List (Int × Int)) (h0 h1 h2 h3 h4 k r : Nat) (w : World) (hs : SvOk s C T w) (hk : k < s.tn) (hr : r < s.cn) :
    Calls Try.prog 60 #[.agg #[.int .i64 s.len, .slice s.pa s.pn s.pc, .int .i64 s.long, .int .i64 s.short, .slice s.ca s.cn s.cc, .int .i64 s.due, .int .i64 s.delay, .slice s.ta s.tn s.tc], .agg #[.int .i64 (h0 : Int), .int .i64 (h1 : Int), .int .i64 (h2 : Int), .int .i64 (h3 : Int), .int .i64 (h4 : Int)], .int .i64 (k : Int), .int .i64 (r : Int)] w fun e w' => e = .returned (.bool (mayM s C T [h0, h1, h2, h3, h4] k r)) ∧ Below w.heap.size w w' := by
  have h5 := hs.c5
  match r, hr with
  | 0, hr => exact mayHave_0 s C T _ _ _ _ _ _ _ _ _ _ _ _ _ _ rfl h0 h1 h2 h3 h4 k w hs hk hr
  | 1, hr => exact mayHave_1 s C T _ _ _ _ _ _ _ _ _ _ _ _ _ _ rfl h0 h1 h2 h3 h4 k w hs hk hr
  | 2, hr => exact mayHave_2 s C T _ _ _ _ _ _ _ _ _ _ _ _ _ _ rfl h0 h1 h2 h3 h4 k w hs hk hr
  | 3, hr => exact mayHave_3 s C T _ _ _ _ _ _ _ _ _ _ _ _ _ _ rfl h0 h1 h2 h3 h4 k w hs hk hr
  | 4, hr => exact mayHave_4 s C T _ _ _ _ _ _ _ _ _ _ _ _ _ _ rfl h0 h1 h2 h3 h4 k w hs hk hr
  | r + 5, hr => omega

end Go.Proofs.Ytgapbaelifcifaa
