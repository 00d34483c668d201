/- Tongue: what a step costs. -/
import Derived.Test.YtohahlnhbppnhaaC
import Derived.Laws.EntriesVeiled
namespace Go.Proofs.Ytohahlnhbppnhaa
open Go.RowKit
set_option linter.unusedSimpArgs false
set_option linter.unusedVariables false

/-- What steps cost, as it lies in memory. -/
structure ChargesAt (w : World) (b b0 b2 : Nat) : Prop where
  c0 : w.cell? ⟨b, 0, none⟩ = some (.int .i64 2)
  c1 : w.cell? ⟨b, 1, none⟩ = some (.func (.func 85) #[] #[])
  c2 : w.cell? ⟨b, 2, none⟩ = some (.int .i64 3)
  c3 : w.cell? ⟨b, 3, none⟩ = some (.func (.func 110) #[] #[.pointer (some ⟨b0, 0, none⟩)])
  c4 : w.cell? ⟨b, 4, none⟩ = some (.int .i64 1)
  c5 : w.cell? ⟨b, 5, none⟩ = some (.func (.func 110) #[] #[.pointer (some ⟨b2, 0, none⟩)])
  z0 : w.cell? ⟨b0, 0, none⟩ = some (.int .i64 0)
  z2 : w.cell? ⟨b2, 0, none⟩ = some (.int .i64 2)

theorem ChargesAt.grown {w w' : World} {b b0 b2 : Nat} (h : ChargesAt w b b0 b2) (hb : Below w.heap.size w w') : ChargesAt w' b b0 b2 :=
  ⟨cell_grown hb h.c0, cell_grown hb h.c1, cell_grown hb h.c2, cell_grown hb h.c3, cell_grown hb h.c4, cell_grown hb h.c5, cell_grown hb h.z0, cell_grown hb h.z2⟩

set_option maxRecDepth 100000 in
set_option maxHeartbeats 1000000 in
theorem charges_any (w : World) : Calls Try.prog 77 #[] w fun e w' => ∃ b b0 b2, e = .returned (.slice (some ⟨b, 0, none⟩) 3 3) ∧ ChargesAt w' b b0 b2 ∧ Below w.heap.size w w' := by
  go_enter Try.func77, Try.ntmps77
  go_wp2_with go_in
  obtain ⟨W0, hW0⟩ : ∃ W, W = ((w.alloc (.cells #[.int .i64 0] 3)).alloc (.cells #[.int .i64 2] 3)).alloc (.cells #[.int .i64 2, .func (.func 85) #[] #[], .int .i64 3, .func (.func 110) #[] #[.pointer (some ⟨w.heap.size, 0, none⟩)], .int .i64 1, .func (.func 110) #[] #[.pointer (some ⟨w.heap.size + 1, 0, none⟩)]] 181) := ⟨_, rfl⟩
  have hB0 : Below w.heap.size w W0 := by rw [hW0]; exact (((Below.refl _ w).alloc (Nat.le_refl _) _).alloc (by simp) _).alloc (by simp; omega) _
  have hc : ChargesAt W0 (w.heap.size + 1 + 1) w.heap.size (w.heap.size + 1) := by
    rw [hW0]
    constructor <;> simp [go_sem]
  rw [← hW0]
  clear hW0
  go_ret
  exact ⟨_, _, _, rfl, hc, hB0⟩

/-- On how many sides of a step are so many sentences? -/
def sidesM (n x y : Nat) : Nat := (if x = n then 1 else 0) + (if y = n then 1 else 0)

def cntM (n x y : Nat) : Nat → Nat
  | 0 => 0
  | 1 => if x = n then 1 else 0
  | _ => sidesM n x y

set_option maxRecDepth 100000 in
set_option maxHeartbeats 1000000 in
theorem sides_any (x y n : Nat) (sx sy : Int) (n1 c1 n2 c2 b0 : Nat) (i k : Int) (a1 a2 : Option Addr) (w : World) (hx : x ≤ 2) (hy : y ≤ 2) (hn : n ≤ 2) (h0 : w.cell? ⟨b0, 0, none⟩ = some (.int .i64 (n : Int))) :
    Calls Try.prog 110 #[.agg #[.int .i64 (x : Int), .int .i64 (y : Int), .slice a1 n1 c1, .int .u8 sx, .int .i64 i, .slice a2 n2 c2, .int .u8 sy, .int .i64 k], .pointer (some ⟨b0, 0, none⟩)] w fun e w' => e = .returned (.int .i64 (sidesM n x y : Nat)) ∧ Below w.heap.size w w' := by
  have hb0 := lt_of_cell h0
  go_enter Try.func110, Try.ntmps110
  go_wp2_with fail
  obtain ⟨W0, hW0⟩ : ∃ W, W = (w.alloc (.cells #[.int .i64 (x : Int), .int .i64 (y : Int), .slice a1 n1 c1, .int .u8 sx, .int .i64 i, .slice a2 n2 c2, .int .u8 sy, .int .i64 k] 155)).alloc (.cells #[.int .i64 (x : Int), .int .i64 (y : Int)] 3) := ⟨_, rfl⟩
  have hB0 : Below w.heap.size w W0 := by rw [hW0]; exact ((Below.refl _ w).alloc (Nat.le_refl _) _).alloc (by simp) _
  have p0 : W0.cell? ⟨w.heap.size + 1, 0, none⟩ = some (.int .i64 (x : Int)) := by rw [hW0]; simp [go_sem]
  have p1 : W0.cell? ⟨w.heap.size + 1, 1, none⟩ = some (.int .i64 (y : Int)) := by rw [hW0]; simp [go_sem]
  rw [← hW0]
  clear hW0
  replace h0 := cell_grown hB0 h0
  go_loopw [4, 6, 15] (fun c _ j wr => ∃ m : Nat, m ≤ 2 ∧ j = .int .i64 m ∧ c = .int .i64 (cntM n x y m : Nat) ∧ Below W0.heap.size W0 wr) (fun _ _ j _ => 2 - (intOf j).toNat)
  case atStart => exact ⟨0, by omega, rfl, rfl, Below.refl _ _⟩
  case round =>
    obtain ⟨m, hm, rfl, rfl, hB⟩ := hrel
    have q0 := cell_grown hB p0
    have q1 := cell_grown hB p1
    have qn := cell_grown hB h0
    have g0 := lt_of_cell q0
    have gn := lt_of_cell qn
    have hm' : m = 0 ∨ m = 1 ∨ m = 2 := by omega
    rcases hm' with rfl | rfl | rfl
    · rw [show cntM n x y 0 = 0 from rfl]
      by_cases hxn : x = n
      · have e : cntM n x y 1 = 1 := by simp [cntM, hxn]
        have hxi : ((x : Int) == (n : Int)) = true := by simp [hxn]
        have HE := hid e
        clear e
        go_wp2_with fail
        go_roundw
        case rel => exact ⟨1, by omega, by go_num, by rw [HE.out]; simp, hB⟩
        case measure => simp [intOf]
      · have e : cntM n x y 1 = 0 := by simp [cntM, hxn]
        have hxi : ((x : Int) == (n : Int)) = false := by simp; omega
        have HE := hid e
        clear e
        go_wp2_with fail
        go_roundw
        case rel => exact ⟨1, by omega, by go_num, by rw [HE.out], hB⟩
        case measure => simp [intOf]
    · obtain ⟨c, hc⟩ : ∃ c, c = cntM n x y 1 := ⟨_, rfl⟩
      rw [← hc]
      have hc1 : c ≤ 1 := by rw [hc]; simp only [cntM]; split <;> omega
      by_cases hyn : y = n
      · have e : cntM n x y 2 = c + 1 := by rw [hc]; simp [cntM, sidesM, hyn]
        have hxi : ((y : Int) == (n : Int)) = true := by simp [hyn]
        have HE := hid e
        clear e hc
        go_wp2_with fail
        go_roundw
        case rel => exact ⟨2, by omega, by go_num, by rw [HE.out]; simp, hB⟩
        case measure => simp [intOf]
      · have e : cntM n x y 2 = c := by rw [hc]; simp [cntM, sidesM, hyn]
        have hxi : ((y : Int) == (n : Int)) = false := by simp; omega
        have HE := hid e
        clear e hc
        go_wp2_with fail
        go_roundw
        case rel => exact ⟨2, by omega, by go_num, by rw [HE.out], hB⟩
        case measure => simp [intOf]
    · go_wp2_with fail
      go_ret
      exact ⟨rfl, below_then hB0 hB⟩

/-- What a step costs. -/
def priceM (x y : Nat) (T U : List Sen) : Nat := 2 * apartM T U + 3 * sidesM 0 x y + sidesM 2 x y

def paidM (x y : Nat) (T U : List Sen) : Nat → Nat
  | 0 => 0
  | 1 => 2 * apartM T U
  | 2 => 2 * apartM T U + 3 * sidesM 0 x y
  | _ => priceM x y T U

theorem sidesM_le (n x y : Nat) : sidesM n x y ≤ 2 := by
  unfold sidesM
  split <;> split <;> omega

theorem apartM_le (T U : List Sen) : apartM T U ≤ 1024 := apartK_le _ _ 16

set_option maxRecDepth 100000 in
set_option maxHeartbeats 1000000 in
theorem price_any (T U : List Sen) (x y : Nat) (sx sy ps1 ps2 : Int) (n1 c1 n2 c2 b b0 b2 m1 k1 m2 k2 : Nat) (i k i1 i2 : Int) (a1 a2 l1 l2 : Option Addr) (w : World) (hx : x ≤ 2) (hy : y ≤ 2)
    (hT : T.length = n1) (hU : U.length = n2) (fT : FineT T) (fU : FineT U) (hS : TextAt w a1 T) (hR : TextAt w a2 U) (hC : ChargesAt w b b0 b2) :
    Calls Try.prog 81 #[.agg #[.slice l1 m1 k1, .int .u8 ps1, .int .i64 i1, .slice l2 m2 k2, .int .u8 ps2, .int .i64 i2, .slice (some ⟨b, 0, none⟩) 3 3], .agg #[.int .i64 (x : Int), .int .i64 (y : Int), .slice a1 n1 c1, .int .u8 sx, .int .i64 i, .slice a2 n2 c2, .int .u8 sy, .int .i64 k]] w fun e w' =>
      e = .returned (.int .i64 (priceM x y T U : Nat)) ∧ Below w.heap.size w w' := by
  go_enter Try.func81, Try.ntmps81
  go_wp2_with fail
  obtain ⟨W0, hW0⟩ : ∃ W, W = (w.alloc (.cells #[.slice l1 m1 k1, .int .u8 ps1, .int .i64 i1, .slice l2 m2 k2, .int .u8 ps2, .int .i64 i2, .slice (some ⟨b, 0, none⟩) 3 3] 119)).alloc (.cells #[.int .i64 (x : Int), .int .i64 (y : Int), .slice a1 n1 c1, .int .u8 sx, .int .i64 i, .slice a2 n2 c2, .int .u8 sy, .int .i64 k] 155) := ⟨_, rfl⟩
  have hB0 : Below w.heap.size w W0 := by rw [hW0]; exact ((Below.refl _ w).alloc (Nat.le_refl _) _).alloc (by simp) _
  have d0 : W0.cell? ⟨w.heap.size + 1, 0, none⟩ = some (.int .i64 (x : Int)) := by rw [hW0]; simp [go_sem]
  have d1 : W0.cell? ⟨w.heap.size + 1, 1, none⟩ = some (.int .i64 (y : Int)) := by rw [hW0]; simp [go_sem]
  have d2 : W0.cell? ⟨w.heap.size + 1, 2, none⟩ = some (.slice a1 n1 c1) := by rw [hW0]; simp [go_sem]
  have d3 : W0.cell? ⟨w.heap.size + 1, 3, none⟩ = some (.int .u8 sx) := by rw [hW0]; simp [go_sem]
  have d4 : W0.cell? ⟨w.heap.size + 1, 4, none⟩ = some (.int .i64 i) := by rw [hW0]; simp [go_sem]
  have d5 : W0.cell? ⟨w.heap.size + 1, 5, none⟩ = some (.slice a2 n2 c2) := by rw [hW0]; simp [go_sem]
  have d6 : W0.cell? ⟨w.heap.size + 1, 6, none⟩ = some (.int .u8 sy) := by rw [hW0]; simp [go_sem]
  have d7 : W0.cell? ⟨w.heap.size + 1, 7, none⟩ = some (.int .i64 k) := by rw [hW0]; simp [go_sem]
  rw [← hW0]
  clear hW0
  have hap : ∀ W, Below w.heap.size w W → Calls Try.prog 85 #[.agg #[.int .i64 (x : Int), .int .i64 (y : Int), .slice a1 n1 c1, .int .u8 sx, .int .i64 i, .slice a2 n2 c2, .int .u8 sy, .int .i64 k]] W fun e w' => e = .returned (.int .i64 (apartM T U : Nat)) ∧ Below W.heap.size W w' := fun W hb => apart_any T U x y i k sx sy n1 c1 n2 c2 a1 a2 W hT hU fT fU (hS.grown hb) (hR.grown hb)
  have hs0 : ∀ W, Below w.heap.size w W → Calls Try.prog 110 #[.agg #[.int .i64 (x : Int), .int .i64 (y : Int), .slice a1 n1 c1, .int .u8 sx, .int .i64 i, .slice a2 n2 c2, .int .u8 sy, .int .i64 k], .pointer (some ⟨b0, 0, none⟩)] W fun e w' => e = .returned (.int .i64 (sidesM 0 x y : Nat)) ∧ Below W.heap.size W w' := fun W hb => sides_any x y 0 sx sy n1 c1 n2 c2 b0 i k a1 a2 W hx hy (by omega) (cell_grown hb hC.z0)
  have hs2 : ∀ W, Below w.heap.size w W → Calls Try.prog 110 #[.agg #[.int .i64 (x : Int), .int .i64 (y : Int), .slice a1 n1 c1, .int .u8 sx, .int .i64 i, .slice a2 n2 c2, .int .u8 sy, .int .i64 k], .pointer (some ⟨b2, 0, none⟩)] W fun e w' => e = .returned (.int .i64 (sidesM 2 x y : Nat)) ∧ Below W.heap.size W w' := fun W hb => sides_any x y 2 sx sy n1 c1 n2 c2 b2 i k a1 a2 W hx hy (by omega) (cell_grown hb hC.z2)
  have HP : Hid (priceM x y T U = 2 * apartM T U + 3 * sidesM 0 x y + sidesM 2 x y) := hid rfl
  have HP1 : Hid (paidM x y T U 1 = 2 * apartM T U) := hid rfl
  have HP2 : Hid (paidM x y T U 2 = 2 * apartM T U + 3 * sidesM 0 x y) := hid rfl
  have HP3 : Hid (paidM x y T U 3 = priceM x y T U) := hid rfl
  have l1' := apartM_le T U
  have l2' := sidesM_le 0 x y
  have l3' := sidesM_le 2 x y
  clear hT hU fT fU hS hR
  go_loopw [5, 7, 11, 13, 14] (fun c _ j _ _ wr => ∃ m : Nat, m ≤ 3 ∧ j = .int .i64 m ∧ c = .int .i64 (paidM x y T U m : Nat) ∧ Below W0.heap.size W0 wr) (fun _ _ j _ _ _ => 3 - (intOf j).toNat)
  case atStart => exact ⟨0, by omega, rfl, rfl, Below.refl _ _⟩
  case round =>
    obtain ⟨m, hm, rfl, rfl, hB⟩ := hrel
    have hB3 := below_then hB0 hB
    have hm' : m = 0 ∨ m = 1 ∨ m = 2 ∨ m = 3 := by omega
    rcases hm' with rfl | rfl | rfl | rfl
    · have v0 := (hC.grown hB3).c0
      have v1 := (hC.grown hB3).c1
      have gv := lt_of_cell v0
      rw [show paidM x y T U 0 = 0 from rfl]
      obtain ⟨z, hz⟩ : ∃ z, z = apartM T U := ⟨_, rfl⟩
      rw [← hz] at hap
      have hzl : z ≤ 1024 := by omega
      obtain ⟨p, hp⟩ : ∃ p, p = 0 := ⟨_, rfl⟩
      have hpl : p ≤ 3000 := by omega
      have HS : Hid (paidM x y T U 1 = p + 2 * z) := hid (by rw [HP1.out, hp, hz]; all_goals omega)
      have hp0 : p = 0 := hp
      clear hz hp
      go_wp2_with fail
      obtain ⟨W1, hW1⟩ : ∃ W, W = wr.alloc (.cells #[.int .i64 2, .func (.func 85) #[] #[]] 181) := ⟨_, rfl⟩
      have hB1 : Below wr.heap.size wr W1 := by rw [hW1]; exact below_alloc _ _
      have r0 : W1.cell? ⟨wr.heap.size, 0, none⟩ = some (.int .i64 2) := by rw [hW1]; simp [go_sem]
      have r1 : W1.cell? ⟨wr.heap.size, 1, none⟩ = some (.func (.func 85) #[] #[]) := by rw [hW1]; simp [go_sem]
      rw [← hW1]
      clear hW1
      have hBw := below_then hB hB1
      have o0 : ∀ p : Over W1, p.w.cell? ⟨wr.heap.size, 0, none⟩ = some (.int .i64 2) := fun p => p.cell r0
      have o1 : ∀ p : Over W1, p.w.cell? ⟨wr.heap.size, 1, none⟩ = some (.func (.func 85) #[] #[]) := fun p => p.cell r1
      have k0 : ∀ p : Over W1, p.w.cell? ⟨w.heap.size + 1, 0, none⟩ = some (.int .i64 (x : Int)) := fun p => p.cell (cell_grown hBw d0)
      have k1 : ∀ p : Over W1, p.w.cell? ⟨w.heap.size + 1, 1, none⟩ = some (.int .i64 (y : Int)) := fun p => p.cell (cell_grown hBw d1)
      have k2 : ∀ p : Over W1, p.w.cell? ⟨w.heap.size + 1, 2, none⟩ = some (.slice a1 n1 c1) := fun p => p.cell (cell_grown hBw d2)
      have k3 : ∀ p : Over W1, p.w.cell? ⟨w.heap.size + 1, 3, none⟩ = some (.int .u8 sx) := fun p => p.cell (cell_grown hBw d3)
      have k4 : ∀ p : Over W1, p.w.cell? ⟨w.heap.size + 1, 4, none⟩ = some (.int .i64 i) := fun p => p.cell (cell_grown hBw d4)
      have k5 : ∀ p : Over W1, p.w.cell? ⟨w.heap.size + 1, 5, none⟩ = some (.slice a2 n2 c2) := fun p => p.cell (cell_grown hBw d5)
      have k6 : ∀ p : Over W1, p.w.cell? ⟨w.heap.size + 1, 6, none⟩ = some (.int .u8 sy) := fun p => p.cell (cell_grown hBw d6)
      have k7 : ∀ p : Over W1, p.w.cell? ⟨w.heap.size + 1, 7, none⟩ = some (.int .i64 k) := fun p => p.cell (cell_grown hBw d7)
      have hc : ∀ p : Over W1, _ := fun p => hap p.w (below_then (below_then hB0 hBw) p.h)
      refine wp_region_over W1 (Below.refl _ _) (by kernel_rfl) (by kernel_rfl) ?_
      repeat (go_big_quiet_step (first | (go_at_call 85; exact Calls.over_of (hc _))))
      refine wpQuiet_nil ?_
      intro wz hw'
      have hbz := over_below hw'
      clear hw' o0 o1 k0 k1 k2 k3 k4 k5 k6 k7 hc
      go_wp2_with fail
      go_roundw
      case rel => exact ⟨1, by omega, by go_num, by rw [HS.out]; simp [hp0], below_then hBw hbz⟩
      case measure => simp [intOf]
    · have v0 := (hC.grown hB3).c2
      have v1 := (hC.grown hB3).c3
      have gv := lt_of_cell v0
      rw [HP1.out]
      obtain ⟨z, hz⟩ : ∃ z, z = sidesM 0 x y := ⟨_, rfl⟩
      rw [← hz] at hs0
      have hzl : z ≤ 2 := by omega
      obtain ⟨p, hp⟩ : ∃ p, p = 2 * apartM T U := ⟨_, rfl⟩
      have hpl : p ≤ 3000 := by omega
      have HS : Hid (paidM x y T U 2 = p + 3 * z) := hid (by rw [HP2.out, hp, hz]; all_goals omega)
      rw [← hp]
      clear hz hp
      go_wp2_with fail
      obtain ⟨W1, hW1⟩ : ∃ W, W = wr.alloc (.cells #[.int .i64 3, .func (.func 110) #[] #[.pointer (some ⟨b0, 0, none⟩)]] 181) := ⟨_, rfl⟩
      have hB1 : Below wr.heap.size wr W1 := by rw [hW1]; exact below_alloc _ _
      have r0 : W1.cell? ⟨wr.heap.size, 0, none⟩ = some (.int .i64 3) := by rw [hW1]; simp [go_sem]
      have r1 : W1.cell? ⟨wr.heap.size, 1, none⟩ = some (.func (.func 110) #[] #[.pointer (some ⟨b0, 0, none⟩)]) := by rw [hW1]; simp [go_sem]
      rw [← hW1]
      clear hW1
      have hBw := below_then hB hB1
      have o0 : ∀ p : Over W1, p.w.cell? ⟨wr.heap.size, 0, none⟩ = some (.int .i64 3) := fun p => p.cell r0
      have o1 : ∀ p : Over W1, p.w.cell? ⟨wr.heap.size, 1, none⟩ = some (.func (.func 110) #[] #[.pointer (some ⟨b0, 0, none⟩)]) := fun p => p.cell r1
      have k0 : ∀ p : Over W1, p.w.cell? ⟨w.heap.size + 1, 0, none⟩ = some (.int .i64 (x : Int)) := fun p => p.cell (cell_grown hBw d0)
      have k1 : ∀ p : Over W1, p.w.cell? ⟨w.heap.size + 1, 1, none⟩ = some (.int .i64 (y : Int)) := fun p => p.cell (cell_grown hBw d1)
      have k2 : ∀ p : Over W1, p.w.cell? ⟨w.heap.size + 1, 2, none⟩ = some (.slice a1 n1 c1) := fun p => p.cell (cell_grown hBw d2)
      have k3 : ∀ p : Over W1, p.w.cell? ⟨w.heap.size + 1, 3, none⟩ = some (.int .u8 sx) := fun p => p.cell (cell_grown hBw d3)
      have k4 : ∀ p : Over W1, p.w.cell? ⟨w.heap.size + 1, 4, none⟩ = some (.int .i64 i) := fun p => p.cell (cell_grown hBw d4)
      have k5 : ∀ p : Over W1, p.w.cell? ⟨w.heap.size + 1, 5, none⟩ = some (.slice a2 n2 c2) := fun p => p.cell (cell_grown hBw d5)
      have k6 : ∀ p : Over W1, p.w.cell? ⟨w.heap.size + 1, 6, none⟩ = some (.int .u8 sy) := fun p => p.cell (cell_grown hBw d6)
      have k7 : ∀ p : Over W1, p.w.cell? ⟨w.heap.size + 1, 7, none⟩ = some (.int .i64 k) := fun p => p.cell (cell_grown hBw d7)
      have hc : ∀ p : Over W1, _ := fun p => hs0 p.w (below_then (below_then hB0 hBw) p.h)
      refine wp_region_over W1 (Below.refl _ _) (by kernel_rfl) (by kernel_rfl) ?_
      repeat (go_big_quiet_step (first | (go_at_call 110; exact Calls.over_of (hc _))))
      refine wpQuiet_nil ?_
      intro wz hw'
      have hbz := over_below hw'
      clear hw' o0 o1 k0 k1 k2 k3 k4 k5 k6 k7 hc
      go_wp2_with fail
      go_roundw
      case rel => exact ⟨2, by omega, by go_num, by rw [HS.out]; simp, below_then hBw hbz⟩
      case measure => simp [intOf]
    · have v0 := (hC.grown hB3).c4
      have v1 := (hC.grown hB3).c5
      have gv := lt_of_cell v0
      rw [HP2.out]
      obtain ⟨z, hz⟩ : ∃ z, z = sidesM 2 x y := ⟨_, rfl⟩
      rw [← hz] at hs2
      have hzl : z ≤ 2 := by omega
      obtain ⟨p, hp⟩ : ∃ p, p = 2 * apartM T U + 3 * sidesM 0 x y := ⟨_, rfl⟩
      have hpl : p ≤ 3000 := by omega
      have HS : Hid (paidM x y T U 3 = p + 1 * z) := hid (by rw [HP3.out, hp, hz]; rw [HP.out]; all_goals omega)
      rw [← hp]
      clear hz hp
      go_wp2_with fail
      obtain ⟨W1, hW1⟩ : ∃ W, W = wr.alloc (.cells #[.int .i64 1, .func (.func 110) #[] #[.pointer (some ⟨b2, 0, none⟩)]] 181) := ⟨_, rfl⟩
      have hB1 : Below wr.heap.size wr W1 := by rw [hW1]; exact below_alloc _ _
      have r0 : W1.cell? ⟨wr.heap.size, 0, none⟩ = some (.int .i64 1) := by rw [hW1]; simp [go_sem]
      have r1 : W1.cell? ⟨wr.heap.size, 1, none⟩ = some (.func (.func 110) #[] #[.pointer (some ⟨b2, 0, none⟩)]) := by rw [hW1]; simp [go_sem]
      rw [← hW1]
      clear hW1
      have hBw := below_then hB hB1
      have o0 : ∀ p : Over W1, p.w.cell? ⟨wr.heap.size, 0, none⟩ = some (.int .i64 1) := fun p => p.cell r0
      have o1 : ∀ p : Over W1, p.w.cell? ⟨wr.heap.size, 1, none⟩ = some (.func (.func 110) #[] #[.pointer (some ⟨b2, 0, none⟩)]) := fun p => p.cell r1
      have k0 : ∀ p : Over W1, p.w.cell? ⟨w.heap.size + 1, 0, none⟩ = some (.int .i64 (x : Int)) := fun p => p.cell (cell_grown hBw d0)
      have k1 : ∀ p : Over W1, p.w.cell? ⟨w.heap.size + 1, 1, none⟩ = some (.int .i64 (y : Int)) := fun p => p.cell (cell_grown hBw d1)
      have k2 : ∀ p : Over W1, p.w.cell? ⟨w.heap.size + 1, 2, none⟩ = some (.slice a1 n1 c1) := fun p => p.cell (cell_grown hBw d2)
      have k3 : ∀ p : Over W1, p.w.cell? ⟨w.heap.size + 1, 3, none⟩ = some (.int .u8 sx) := fun p => p.cell (cell_grown hBw d3)
      have k4 : ∀ p : Over W1, p.w.cell? ⟨w.heap.size + 1, 4, none⟩ = some (.int .i64 i) := fun p => p.cell (cell_grown hBw d4)
      have k5 : ∀ p : Over W1, p.w.cell? ⟨w.heap.size + 1, 5, none⟩ = some (.slice a2 n2 c2) := fun p => p.cell (cell_grown hBw d5)
      have k6 : ∀ p : Over W1, p.w.cell? ⟨w.heap.size + 1, 6, none⟩ = some (.int .u8 sy) := fun p => p.cell (cell_grown hBw d6)
      have k7 : ∀ p : Over W1, p.w.cell? ⟨w.heap.size + 1, 7, none⟩ = some (.int .i64 k) := fun p => p.cell (cell_grown hBw d7)
      have hc : ∀ p : Over W1, _ := fun p => hs2 p.w (below_then (below_then hB0 hBw) p.h)
      refine wp_region_over W1 (Below.refl _ _) (by kernel_rfl) (by kernel_rfl) ?_
      repeat (go_big_quiet_step (first | (go_at_call 110; exact Calls.over_of (hc _))))
      refine wpQuiet_nil ?_
      intro wz hw'
      have hbz := over_below hw'
      clear hw' o0 o1 k0 k1 k2 k3 k4 k5 k6 k7 hc
      go_wp2_with fail
      go_roundw
      case rel => exact ⟨3, by omega, by go_num, by rw [HS.out]; simp, below_then hBw hbz⟩
      case measure => simp [intOf]
    · rw [HP3.out]
      go_wp2_with fail
      go_ret
      exact ⟨rfl, hB3⟩

end Go.Proofs.Ytohahlnhbppnhaa
