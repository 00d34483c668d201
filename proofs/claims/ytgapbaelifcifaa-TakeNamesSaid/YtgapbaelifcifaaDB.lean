/- Contract of At. -/
import Derived.Test.YtgapbaelifcifaaDA
import Derived.Test.YtgapbaelifcifaaCK
import Derived.Test.YtgapbaelifcifaaGA
namespace Go.Proofs.Ytgapbaelifcifaa
open Go.RowKit

/-- What At answers: the number of a take, and an error. -/
def atM (len long short sec : Int) (L : List (Int × Int)) : Int × Int :=
  if sitErr len long short L = 0 then
    (if inB sec 0 (len - 1) = true then (if pausedP sec L = true then (0, 7) else ((begunM sec (takesOf len long short L) : Int) - 1, 0)) else (0, 2))
  else (0, sitErr len long short L)

set_option maxRecDepth 100000 in
set_option maxHeartbeats 1000000 in
theorem atT_any (L : List (Int × Int)) (len long short sec : Int) (m cap : Nat) (a : Option Addr) (w : World)
    (hL : L.length = m) (hm : m ≤ maxLen) (hS : Spans w a L) :
    Calls Try.prog 22 #[.agg #[.int .i64 len, .slice a m cap, .int .i64 long, .int .i64 short], .int .i64 sec] w fun e w' =>
      e = .returned (.tuple #[.int .i64 (atM len long short sec L).1, .int .i64 (atM len long short sec L).2]) ∧ Below w.heap.size w w' := by
  have HL := hid hL
  clear hL
  obtain ⟨z1, hz1⟩ : ∃ z, (atM len long short sec L).1 = z := ⟨_, rfl⟩
  obtain ⟨z2, hz2⟩ : ∃ z, (atM len long short sec L).2 = z := ⟨_, rfl⟩
  rw [hz1, hz2]
  have HZ1 := hid hz1
  have HZ2 := hid hz2
  clear hz1 hz2
  go_enter Try.func22, Try.ntmps22
  go_wp2_with fail
  obtain ⟨W0, hW0⟩ : ∃ W0, W0 = w.alloc (.cells #[.int .i64 len, .slice a m cap, .int .i64 long, .int .i64 short] 34) := ⟨_, rfl⟩
  have hB0 : Below w.heap.size w W0 := by rw [hW0]; exact (Below.refl _ w).alloc (Nat.le_refl _) _
  have c0 : W0.cell? ⟨w.heap.size, 0, none⟩ = some (.int .i64 len) := by rw [hW0]; simp
  have c1 : W0.cell? ⟨w.heap.size, 1, none⟩ = some (.slice a m cap) := by rw [hW0]; simp
  have z0 : W0.heap.size = w.heap.size + 1 := by rw [hW0]; simp
  rw [← hW0]
  clear hW0
  have hS0 := hS.grown hB0
  refine (cut_any L len long short m cap a W0 HL.out hm hS0).mono ?_
  intro e w1 h
  have hb1 : Below W0.heap.size W0 w1 := h.1
  have z1 := hb1.size
  replace c0 := cell_grown hb1 c0
  replace c1 := cell_grown hb1 c1
  replace hS0 := hS0.grown hb1
  have hB1 : Below w.heap.size w w1 := hB0.trans (hb1.mono (by omega))
  rcases cutPost_cases h with ⟨h1, hb, rfl⟩ | ⟨h1, h2, hb, rfl⟩ | ⟨a', cap', n, hn, h1, h2, hb, rfl, hS', hf'⟩
  · have E0 : sitErr len long short L = 1 := by unfold sitErr; rw [if_pos h1]
    have E : atM len long short sec L = (0, 1) := by unfold atM; rw [E0, if_neg (by decide)]
    have HE := hid E
    clear E E0 h1 h hb hb1
    go_wp2
    exact bodyPost_ret (v := .tuple #[.int .i64 (0), .int .i64 1]) (by simp [results, Try.f22, go_sem]) rfl ⟨by rw [← HZ1.out, ← HZ2.out, HE.out], hB1⟩
  · have E0 : sitErr len long short L = 3 := by unfold sitErr; rw [if_neg (by rw [h1]; simp), if_pos h2]
    have E : atM len long short sec L = (0, 3) := by unfold atM; rw [E0, if_neg (by decide)]
    have HE := hid E
    clear E E0 h1 h2 h hb hb1
    go_wp2
    exact bodyPost_ret (v := .tuple #[.int .i64 (0), .int .i64 3]) (by simp [results, Try.f22, go_sem]) rfl ⟨by rw [← HZ1.out, ← HZ2.out, HE.out], hB1⟩
  · have E0 : sitErr len long short L = 0 := by unfold sitErr; rw [if_neg (by rw [h1]; simp), if_neg (by omega)]
    have HE0 := hid E0
    have HN := hid hn
    have hlen := hid (sitOk_parts h1).1
    have hlen2 := (sitOk_parts h1).1
    have hn40 := hid h2
    clear E0 h1 h hb hb1 hn h2 hf'
    go_wp2_with fail
    refine (within_any sec 0 (len - 1) w1).mono ?_
    rintro e w' ⟨rfl, rfl⟩
    by_cases hin : inB sec 0 (len - 1) = true
    · have HI := hid hin
      rw [hin]
      clear hin
      go_wp2_with fail
      refine (pausedT_any L sec m cap a w1 HL.out hm hS0).mono ?_
      rintro e w2 ⟨rfl, hb2⟩
      have z2 := hb2.size
      have hB2 := hB1.trans (hb2.mono (by omega))
      have hS2 := hS'.grown hb2
      clear hb2
      by_cases hp : pausedP sec L = true
      · have E : atM len long short sec L = (0, 7) := by unfold atM; rw [HE0.out, if_pos rfl, if_pos HI.out, if_pos hp]
        have HE := hid E
        rw [hp]
        clear E hp
        go_wp2
        exact bodyPost_ret (v := .tuple #[.int .i64 (0), .int .i64 7]) (by simp [results, Try.f22, go_sem]) rfl ⟨by rw [← HZ1.out, ← HZ2.out, HE.out], hB2⟩
      · have E : atM len long short sec L = ((begunM sec (takesOf len long short L) : Int) - 1, 0) := by unfold atM; rw [HE0.out, if_pos rfl, if_pos HI.out, if_neg hp]
        have HE := hid E
        rw [Bool.not_eq_true] at hp
        rw [hp]
        clear E hp
        go_wp2_with fail
        refine (takeOf_any (takesOf len long short L) sec n cap' a' w2 HN.out (by have := hn40.out; unfold maxLen; omega) hS2).mono ?_
        rintro e w3 ⟨rfl, hb3⟩
        go_wp2
        exact bodyPost_ret (v := .tuple #[.int .i64 ((begunM sec (takesOf len long short L) : Int) - 1), .int .i64 0]) (by simp [results, Try.f22, go_sem]) rfl ⟨by rw [← HZ1.out, ← HZ2.out, HE.out], hB2.trans (hb3.mono (by omega))⟩
    · have E : atM len long short sec L = (0, 2) := by unfold atM; rw [HE0.out, if_pos rfl, if_neg hin]
      have HE := hid E
      rw [Bool.not_eq_true] at hin
      rw [hin]
      clear E hin
      go_wp2
      exact bodyPost_ret (v := .tuple #[.int .i64 (0), .int .i64 2]) (by simp [results, Try.f22, go_sem]) rfl ⟨by rw [← HZ1.out, ← HZ2.out, HE.out], hB1⟩

end Go.Proofs.Ytgapbaelifcifaa
