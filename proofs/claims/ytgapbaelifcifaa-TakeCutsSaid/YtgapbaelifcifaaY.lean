/- Contract of the service's method again. -/
import Derived.Test.YtgapbaelifcifaaX
namespace Go.Proofs.Ytgapbaelifcifaa
open Go.RowKit

/-- The first take from j on that does not begin before a second, or how many there are. -/
def nextFrom (T : List (Int × Int)) (free : Int) : Nat → Nat → Nat
  | 0, j => j
  | f + 1, j => if j < T.length ∧ (T.getD j (0, 0)).1 < free then nextFrom T free f (j + 1) else j

def freeM (s : Sv) (C : List (Int × Int × Int)) (T : List (Int × Int)) (k r : Nat) : Int := latestM s C T k r + (C.getD r (0, 0, 0)).2.2

def againM (s : Sv) (C : List (Int × Int × Int)) (T : List (Int × Int)) (k r : Nat) : Nat := nextFrom T (freeM s C T k r) (T.length - (k + 1)) (k + 1)

theorem latestM_bd {s : Sv} {C : List (Int × Int × Int)} {T : List (Int × Int)} {w : World} (hs : SvOk s C T w) {k r : Nat} (hk : k < s.tn) (hr : r < s.cn) : 0 ≤ latestM s C T k r ∧ latestM s C T k r ≤ 800000 := by
  have h1 := hs.bT k hk
  have h2 := hs.bC r hr
  have h3 := hs.delay
  unfold latestM doneM
  have := mul_bd (x := (T.getD k (0, 0)).2 - (T.getD k (0, 0)).1) (y := (C.getD r (0, 0, 0)).2.1) (by omega) (by omega) (by omega) (by omega)
  omega

theorem nextFrom_step (T : List (Int × Int)) (free : Int) (j : Nat) (hj : j < T.length) : nextFrom T free (T.length - j) j = if (T.getD j (0, 0)).1 < free then nextFrom T free (T.length - (j + 1)) (j + 1) else j := by
  obtain ⟨f, hf⟩ : ∃ f, T.length - j = f + 1 := ⟨T.length - j - 1, by omega⟩
  rw [hf, nextFrom, show T.length - (j + 1) = f from by omega]
  simp [hj]

theorem nextFrom_end (T : List (Int × Int)) (free : Int) (j : Nat) (hj : T.length ≤ j) : nextFrom T free (T.length - j) j = j := by
  rw [show T.length - j = 0 from by omega, nextFrom]

set_option maxRecDepth 100000 in
set_option maxHeartbeats 1000000 in
theorem again_any (s : Sv) (C : List (Int × Int × Int)) (T : List (Int × Int)) (k r : Nat) (w : World) (hs : SvOk s C T w) (hk : k < s.tn) (hr : r < s.cn) :
    Calls Try.prog 76 #[.agg #[.int .i64 s.len, .slice s.pa s.pn s.pc, .int .i64 s.long, .int .i64 s.short, .slice s.ca s.cn s.cc, .int .i64 s.due, .int .i64 s.delay, .slice s.ta s.tn s.tc], .int .i64 (k : Int), .int .i64 (r : Int)] w fun e w' => e = .returned (.int .i64 (againM s C T k r : Nat)) ∧ Below w.heap.size w w' := by
  have hLB := latestM_bd hs hk hr
  obtain ⟨len, long, short, due, delay, pa, ca, ta, pn, pc, cn, cc, tn, tc⟩ := s
  obtain ⟨S, hS⟩ : ∃ S : Sv, S = ⟨len, long, short, due, delay, pa, ca, ta, pn, pc, cn, cc, tn, tc⟩ := ⟨_, rfl⟩
  simp only at hk hr ⊢
  rw [← hS] at hLB ⊢
  have hA : Hid (againM S C T k r = nextFrom T (latestM S C T k r + (C.getD r (0, 0, 0)).2.2) (T.length - (k + 1)) (k + 1)) := hid rfl
  have hlat : ∀ W, SvOk S C T W → Calls Try.prog 77 #[.agg #[.int .i64 len, .slice pa pn pc, .int .i64 long, .int .i64 short, .slice ca cn cc, .int .i64 due, .int .i64 delay, .slice ta tn tc], .int .i64 (k : Int), .int .i64 (r : Int)] W fun e w' => e = .returned (.int .i64 (latestM S C T k r)) ∧ Below W.heap.size W w' := fun W h => by
    have := latest_any S C T k r W h (by rw [hS]; exact hk) (by rw [hS]; exact hr)
    rw [hS] at this ⊢
    exact this
  generalize againM S C T k r = m at hA ⊢
  generalize latestM S C T k r = L at hA hlat hLB
  obtain ⟨b, off, hca, e1, e2, e3⟩ := hs.crew r (by rw [hs.cn]; exact hr)
  have hbC := hs.bC r hr
  generalize C.getD r (0, 0, 0) = x at e1 e2 e3 hbC hA
  obtain ⟨x1, x2, x3⟩ := x
  rw [← hS] at hs
  simp only at hca e1 e2 e3 hbC hA
  have h5 : cn ≤ 5 := by have := hs.c5; rw [hS] at this; exact this
  have h40 : tn ≤ 40 := by have := hs.t40; rw [hS] at this; exact this
  have htn : Hid (T.length = tn) := hid (by have := hs.tn; rw [hS] at this; exact this)
  have htk : ∀ W, SvOk S C T W → Spans W ta T := fun W h => by have := h.takes; rw [hS] at this; exact this
  clear hS
  subst hca
  have gb := lt_of_cell e1
  go_enter Try.func76, Try.ntmps76
  go_wp2_with fail
  obtain ⟨W1, hW1⟩ : ∃ W, W = w.alloc (.cells #[.int .i64 len, .slice pa pn pc, .int .i64 long, .int .i64 short, .slice (some ⟨b, off, none⟩) cn cc, .int .i64 due, .int .i64 delay, .slice ta tn tc] 106) := ⟨_, rfl⟩
  have hBW1 : Below w.heap.size w W1 := by rw [hW1]; exact (Below.refl _ _).alloc (Nat.le_refl _) _
  have zW1 : w.heap.size < W1.heap.size := by rw [hW1]; simp
  have y0 : W1.cell? ⟨w.heap.size, 0, none⟩ = some (.int .i64 len) := by rw [hW1]; simp
  have y1 : W1.cell? ⟨w.heap.size, 1, none⟩ = some (.slice pa pn pc) := by rw [hW1]; simp
  have y2 : W1.cell? ⟨w.heap.size, 2, none⟩ = some (.int .i64 long) := by rw [hW1]; simp
  have y3 : W1.cell? ⟨w.heap.size, 3, none⟩ = some (.int .i64 short) := by rw [hW1]; simp
  have y4 : W1.cell? ⟨w.heap.size, 4, none⟩ = some (.slice (some ⟨b, off, none⟩) cn cc) := by rw [hW1]; simp
  have y5 : W1.cell? ⟨w.heap.size, 5, none⟩ = some (.int .i64 due) := by rw [hW1]; simp
  have y6 : W1.cell? ⟨w.heap.size, 6, none⟩ = some (.int .i64 delay) := by rw [hW1]; simp
  have y7 : W1.cell? ⟨w.heap.size, 7, none⟩ = some (.slice ta tn tc) := by rw [hW1]; simp
  have g3 := cell_grown hBW1 e3
  rw [← hW1]
  have hs1 := hs.grown hBW1
  clear hW1 hs
  go_region_held3 (fun w' => w'.cell? ⟨w.heap.size, 0, none⟩ = some (.int .i64 len) ∧ w'.cell? ⟨w.heap.size, 1, none⟩ = some (.slice pa pn pc) ∧ w'.cell? ⟨w.heap.size, 2, none⟩ = some (.int .i64 long) ∧ w'.cell? ⟨w.heap.size, 3, none⟩ = some (.int .i64 short) ∧ w'.cell? ⟨w.heap.size, 4, none⟩ = some (.slice (some ⟨b, off, none⟩) cn cc) ∧ w'.cell? ⟨w.heap.size, 5, none⟩ = some (.int .i64 due) ∧ w'.cell? ⟨w.heap.size, 6, none⟩ = some (.int .i64 delay) ∧ w'.cell? ⟨w.heap.size, 7, none⟩ = some (.slice ta tn tc) ∧ w'.cell? ⟨b, off + r * 3 + 2, none⟩ = some (.int .i64 x3))
    (first | go_keep | exact ⟨cell_grown hb2 y0, cell_grown hb2 y1, cell_grown hb2 y2, cell_grown hb2 y3, cell_grown hb2 y4, cell_grown hb2 y5, cell_grown hb2 y6, cell_grown hb2 y7, cell_grown hb2 g3⟩)
    (first | (go_at_call 77; refine (hlat _ (hs1.grown (below_drewN (Below.refl _ _) 1))).mono ?_; rintro e w2 ⟨rfl, hb2⟩) | (go_at_call 82; refine (sum_any [L, x3] 2 2 _ _ rfl (by omega) (ints2 _ _ _ _ (by simp)) (fun i hi => by match i, hi with | 0, _ => (simp; omega) | 1, _ => (simp; omega))).mono ?_; rintro e w3 ⟨rfl, rfl⟩))
  have hs2 := hid (hs1.grown ((below_drewN (Below.refl _ _) 1).trans hb2))
  have hB2 : Below w.heap.size w w2 := (below_drewN hBW1 1).trans (hb2.mono (show w.heap.size ≤ W1.heap.size from Nat.le_of_lt zW1))
  have q7 := cell_grown hb2 (show W1.drew.cell? _ = _ from y7)
  have zq := lt_of_cell q7
  have hT2 := htk _ hs2.out
  clear y0 y1 y2 y3 y4 y5 y6 y7 g3 hs1 hlat
  go_wp2
  go_loop [8] (fun nx => ∃ j : Nat, k + 1 ≤ j ∧ j ≤ tn ∧ nx = .int .i64 j ∧ Hid (m = nextFrom T (L + x3) (T.length - j) j)) (fun nx => tn - (intOf nx).toNat)
  case atStart => exact ⟨k + 1, Nat.le_refl _, hk, rfl, hA⟩
  case round =>
    obtain ⟨j, hj1, hj2, rfl, HJ⟩ := hrel
    by_cases hlt : j < tn
    · have hst := nextFrom_step T (L + x3) j (by rw [htn.out]; exact hlt)
      obtain ⟨b', off', rfl, f1, f2⟩ := hT2 j (by rw [htn.out]; exact hlt)
      generalize T.getD j (0, 0) = y at f1 f2 hst
      obtain ⟨v1, v2⟩ := y
      simp only at f1 f2 hst
      have gb' := lt_of_cell f1
      by_cases hf : v1 < L + x3
      · rw [if_pos hf] at hst
        have HJ2 : Hid (m = nextFrom T (L + x3) (T.length - (j + 1)) (j + 1)) := hid (by rw [HJ.out, hst])
        clear hst HJ
        go_wp2
        go_round
        case rel => exact ⟨j + 1, by omega, by omega, by go_num, HJ2⟩
        case measure => simp [intOf]; omega
      · rw [if_neg hf] at hst
        have HJ2 : Hid (m = j) := hid (by rw [HJ.out, hst])
        clear hst HJ
        go_wp2
        go_ret
        exact ⟨by rw [HJ2.out]; rfl, hB2.trans ((Below.refl _ _).alloc (by omega) _)⟩
    · have HJ2 : Hid (m = j) := hid (by rw [HJ.out, nextFrom_end _ _ _ (by rw [htn.out]; omega)])
      clear HJ
      go_wp2
      go_ret
      exact ⟨by rw [HJ2.out]; rfl, hB2.trans ((Below.refl _ _).alloc (by omega) _)⟩

end Go.Proofs.Ytgapbaelifcifaa
