/- Contracts of the service's methods latest, again, mayHave, at. -/
import Derived.Test.YtgapbaelifcifaaW
import Derived.StillTailTactics
import Derived.Deep.RegionWith
import Derived.Deep.RegionHeld3
import Derived.Deep.QuietTactic
import Derived.BigQuiet
namespace Go.Proofs.Ytgapbaelifcifaa
open Go.RowKit

def latestM (s : Sv) (C : List (Int × Int × Int)) (T : List (Int × Int)) (k r : Nat) : Int := doneM T k (C.getD r (0, 0, 0)).2.1 s.delay

set_option maxRecDepth 100000 in
set_option maxHeartbeats 400000 in
theorem latest_any (s : Sv) (C : List (Int × Int × Int)) (T : List (Int × Int)) (k r : Nat) (w : World) (hs : SvOk s C T w) (hk : k < s.tn) (hr : r < s.cn) :
    Calls Try.prog 77 #[.agg #[.int .i64 s.len, .slice s.pa s.pn s.pc, .int .i64 s.long, .int .i64 s.short, .slice s.ca s.cn s.cc, .int .i64 s.due, .int .i64 s.delay, .slice s.ta s.tn s.tc], .int .i64 (k : Int), .int .i64 (r : Int)] w fun e w' => e = .returned (.int .i64 (latestM s C T k r)) ∧ Below w.heap.size w w' := by
  obtain ⟨len, long, short, due, delay, pa, ca, ta, pn, pc, cn, cc, tn, tc⟩ := s
  have hD : Hid (latestM ⟨len, long, short, due, delay, pa, ca, ta, pn, pc, cn, cc, tn, tc⟩ C T k r = doneM T k (C.getD r (0, 0, 0)).2.1 delay) := hid rfl
  generalize latestM ⟨len, long, short, due, delay, pa, ca, ta, pn, pc, cn, cc, tn, tc⟩ C T k r = d at hD ⊢
  obtain ⟨b, off, hta, e1, e2, e3⟩ := hs.crew r (by rw [hs.cn]; exact hr)
  have hbC := hs.bC r hr
  generalize C.getD r (0, 0, 0) = x at e1 e2 e3 hbC hD
  obtain ⟨x1, x2, x3⟩ := x
  simp only at hta e1 e2 e3 hbC hD hk hr ⊢
  subst hta
  have gb := lt_of_cell e1
  have h5 := hs.c5
  have hdl := hs.delay
  simp only at h5 hdl
  go_enter Try.func77, Try.ntmps77
  go_wp2_with fail
  obtain ⟨W1, hW1⟩ : ∃ W, W = w.alloc (.cells #[.int .i64 len, .slice pa pn pc, .int .i64 long, .int .i64 short, .slice (some ⟨b, off, none⟩) cn cc, .int .i64 due, .int .i64 delay, .slice ta tn tc] 106) := ⟨_, rfl⟩
  have hBW1 : Below w.heap.size w W1 := by rw [hW1]; exact (Below.refl _ _).alloc (Nat.le_refl _) _
  have zW1 : w.heap.size < W1.heap.size := by rw [hW1]; simp
  have y0 : W1.cell? ⟨w.heap.size, 0, none⟩ = some (.int .i64 len) := by rw [hW1]; simp
  have y1 : W1.cell? ⟨w.heap.size, 1, none⟩ = some (.slice pa pn pc) := by rw [hW1]; simp
  have y2 : W1.cell? ⟨w.heap.size, 2, none⟩ = some (.int .i64 long) := by rw [hW1]; simp
  have y3 : W1.cell? ⟨w.heap.size, 3, none⟩ = some (.int .i64 short) := by rw [hW1]; simp
  have y4 : W1.cell? ⟨w.heap.size, 4, none⟩ = some (.slice (some ⟨b, off, none⟩) cn cc) := by rw [hW1]; simp
  have y5 : W1.cell? ⟨w.heap.size, 5, none⟩ = some (.int .i64 due) := by rw [hW1]; simp
  have y6 : W1.cell? ⟨w.heap.size, 6, none⟩ = some (.int .i64 delay) := by rw [hW1]; simp
  have y7 : W1.cell? ⟨w.heap.size, 7, none⟩ = some (.slice ta tn tc) := by rw [hW1]; simp
  have g1 := cell_grown hBW1 e1
  have g2 := cell_grown hBW1 e2
  rw [← hW1]
  have hs1 := hid (hs.grown hBW1)
  clear hW1 hs
  go_still_tail 14, (by kernel_rfl)
  change wpList _ _ _ _ _ W1.drew
  go_wp2_with fail
  refine (done_any _ C T k x2 delay _ (hs1.out.grown (below_drewN (Below.refl _ _) 1)) hk (by omega) (by omega) (by omega) (by omega)).mono ?_
  rintro e w' ⟨rfl, hb⟩
  go_wp2
  go_ret
  exact ⟨by rw [hD.out]; rfl, (below_drewN hBW1 1).trans (hb.mono (show w.heap.size ≤ W1.heap.size from Nat.le_of_lt zW1))⟩

end Go.Proofs.Ytgapbaelifcifaa
