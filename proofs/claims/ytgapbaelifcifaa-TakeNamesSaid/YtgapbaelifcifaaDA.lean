/- Contracts of take's paused and takeOf. -/
import Derived.Test.YtgapbaelifcifaaCG
namespace Go.Proofs.Ytgapbaelifcifaa
open Go.RowKit

/-- Is the second in a pause, by a walk along the pauses? -/
def pausedP (sec : Int) : List (Int × Int) → Bool
  | [] => false
  | p :: r => if sec < p.1 then false else if sec < p.2 then true else pausedP sec r

theorem pausedP_drop_skip {sec : Int} {L : List (Int × Int)} {k : Nat} (hk : k < L.length) (h1 : ¬ sec < (L.getD k (0, 0)).1) (h2 : ¬ sec < (L.getD k (0, 0)).2) :
    pausedP sec (L.drop k) = pausedP sec (L.drop (k + 1)) := by
  rw [List.getD_eq_getElem?_getD, List.getElem?_eq_getElem hk, Option.getD_some] at h1 h2
  rw [List.drop_eq_getElem_cons hk, pausedP, if_neg h1, if_neg h2]

theorem pausedP_drop_no {sec : Int} {L : List (Int × Int)} {k : Nat} (hk : k < L.length) (h1 : sec < (L.getD k (0, 0)).1) : pausedP sec (L.drop k) = false := by
  rw [List.getD_eq_getElem?_getD, List.getElem?_eq_getElem hk, Option.getD_some] at h1
  rw [List.drop_eq_getElem_cons hk, pausedP, if_pos h1]

theorem pausedP_drop_yes {sec : Int} {L : List (Int × Int)} {k : Nat} (hk : k < L.length) (h1 : ¬ sec < (L.getD k (0, 0)).1) (h2 : sec < (L.getD k (0, 0)).2) : pausedP sec (L.drop k) = true := by
  rw [List.getD_eq_getElem?_getD, List.getElem?_eq_getElem hk, Option.getD_some] at h1 h2
  rw [List.drop_eq_getElem_cons hk, pausedP, if_neg h1, if_pos h2]

set_option maxRecDepth 100000 in
set_option maxHeartbeats 1000000 in
theorem pausedT_any (L : List (Int × Int)) (sec : Int) (n cap : Nat) (a : Option Addr) (w : World)
    (hL : L.length = n) (hn : n ≤ maxLen) (hS : Spans w a L) :
    Calls Try.prog 54 #[.slice a n cap, .int .i64 sec] w fun e w' => e = .returned (.bool (pausedP sec L)) ∧ Below w.heap.size w w' := by
  have HL := hid hL
  clear hL
  have hn' := hn
  unfold maxLen at hn'
  obtain ⟨z, hz⟩ : ∃ z, pausedP sec L = z := ⟨_, rfl⟩
  rw [hz]
  have HZ := hid hz
  clear hz
  go_enter Try.func54, Try.ntmps54
  go_wp2
  go_step3
  go_wp2
  go_step3
  go_wp2
  go_loopw [5, 10] (fun f i wr => ∃ k : Nat, k ≤ n ∧ i = .int .i64 k ∧ f = .bool false ∧ Hid (pausedP sec (L.drop k) = z) ∧ Below w.heap.size w wr) (fun _ i _ => n - (intOf i).toNat)
  case atStart => exact ⟨0, Nat.zero_le _, rfl, rfl, by rw [List.drop_zero]; exact HZ.out, Below.refl _ _⟩
  case round =>
    obtain ⟨k, hk, rfl, rfl, hj, hB⟩ := hrel
    have hS0 := hS.grown hB
    have hzr := hB.size
    by_cases hlt : k < n
    · obtain ⟨b, off, rfl, e1, e2⟩ := hS0 k (by rw [HL.out]; exact hlt)
      obtain ⟨x, hx⟩ : ∃ x, L.getD k (0, 0) = x := ⟨_, rfl⟩
      rw [hx] at e1 e2
      have gb := lt_of_cell e1
      obtain ⟨v1, v2⟩ := x
      simp only at e1 e2
      have HX := hid hx
      clear hx
      have hkk : (k : Int) < n := by omega
      have hkL : k < L.length := by rw [HL.out]; exact hlt
      have HK := hid hkL
      clear hkL
      by_cases h1 : sec < v1
      · go_wp2_with fail
        try rw [Exit.noGoto_ret]
        go_ret
        exact ⟨by rw [← hj.out, pausedP_drop_no HK.out (by rw [HX.out]; simp only; omega)]; rfl, by first | exact hB.alloc hzr _ | exact (hB.alloc hzr _).setCell (by omega) _⟩
      · by_cases h2 : sec < v2
        · go_wp2_with fail
          try rw [Exit.noGoto_ret]
          go_ret
          exact ⟨by rw [← hj.out, pausedP_drop_yes HK.out (by rw [HX.out]; simp only; omega) (by rw [HX.out]; simp only; omega)]; rfl, by first | exact hB.alloc hzr _ | exact (hB.alloc hzr _).setCell (by omega) _⟩
        · go_wp2_with fail
          go_roundw
          case rel => exact ⟨k + 1, by omega, by go_num, rfl, hid ((pausedP_drop_skip HK.out (by rw [HX.out]; simp only; omega) (by rw [HX.out]; simp only; omega)).symm.trans hj.out), by first | exact hB.alloc hzr _ | exact (hB.alloc hzr _).setCell (by omega) _⟩
          case measure => simp [intOf]; omega
    · go_wp2
      try rw [Exit.noGoto_ret]
      go_ret
      have hkn : k = L.length := by rw [HL.out]; omega
      exact ⟨by rw [← hj.out, hkn, List.drop_length]; rfl, hB⟩

/-- How many of the takes have begun. -/
def begunM (sec : Int) (T : List (Int × Int)) : Nat := (T.filter fun t => decide (t.1 ≤ sec)).length

theorem begun_step {sec : Int} {T : List (Int × Int)} {k : Nat} (hk : k < T.length) : begunM sec (T.take (k + 1)) = begunM sec (T.take k) + if (T.getD k (0, 0)).1 ≤ sec then 1 else 0 := by
  unfold begunM
  rw [List.take_succ_eq_append_getElem hk, List.filter_append, List.length_append, List.getD_eq_getElem?_getD, List.getElem?_eq_getElem hk, Option.getD_some]
  congr 1
  rw [List.filter_cons]
  split
  · next h => rw [if_pos (by simpa using h)]; rfl
  · next h => rw [if_neg (by simpa using h)]; rfl

theorem begun_le (sec : Int) (T : List (Int × Int)) : begunM sec T ≤ T.length := List.length_filter_le _ _

set_option maxRecDepth 100000 in
set_option maxHeartbeats 1000000 in
theorem takeOf_any (T : List (Int × Int)) (sec : Int) (n cap : Nat) (a : Option Addr) (w : World)
    (hL : T.length = n) (hn : n ≤ maxLen) (hS : Spans w a T) :
    Calls Try.prog 55 #[.slice a n cap, .int .i64 sec] w fun e w' => e = .returned (.int .i64 ((begunM sec T : Int) - 1)) ∧ Below w.heap.size w w' := by
  have HL := hid hL
  clear hL
  have hn' := hn
  unfold maxLen at hn'
  obtain ⟨z, hz⟩ : ∃ z, begunM sec T = z := ⟨_, rfl⟩
  rw [hz]
  have HZ := hid hz
  clear hz
  go_enter Try.func55, Try.ntmps55
  go_wp2_with fail
  go_loopw [5, 10] (fun m i wr => ∃ k : Nat, k ≤ n ∧ i = .int .i64 k ∧ (∃ q : Nat, m = .int .i64 q ∧ Hid (begunM sec (T.take k) = q) ∧ q ≤ k) ∧ Below w.heap.size w wr) (fun _ i _ => n - (intOf i).toNat)
  case atStart => exact ⟨0, Nat.zero_le _, rfl, ⟨0, rfl, hid (by rw [List.take_zero]; rfl), Nat.le_refl _⟩, Below.refl _ _⟩
  case round =>
    obtain ⟨k, hk, rfl, ⟨q, rfl, hj, hqk⟩, hB⟩ := hrel
    have hS0 := hS.grown hB
    have hzr := hB.size
    by_cases hlt : k < n
    · obtain ⟨b, off, rfl, e1, e2⟩ := hS0 k (by rw [HL.out]; exact hlt)
      obtain ⟨x, hx⟩ : ∃ x, T.getD k (0, 0) = x := ⟨_, rfl⟩
      rw [hx] at e1 e2
      have gb := lt_of_cell e1
      obtain ⟨v1, v2⟩ := x
      simp only at e1 e2
      have HX := hid hx
      clear hx
      have hkk : (k : Int) < n := by omega
      have hkL : k < T.length := by rw [HL.out]; exact hlt
      have HK := hid hkL
      clear hkL
      by_cases h1 : v1 ≤ sec
      · have HS : Hid (begunM sec (T.take (k + 1)) = q + 1) := hid (by rw [begun_step HK.out, hj.out, HX.out, if_pos h1])
        go_wp2_with fail
        go_roundw
        case rel => exact ⟨k + 1, by omega, by go_num, ⟨q + 1, by go_num, HS, by omega⟩, by first | exact hB.alloc hzr _ | exact (hB.alloc hzr _).setCell (by omega) _⟩
        case measure => simp [intOf]; omega
      · have HS : Hid (begunM sec (T.take (k + 1)) = q) := hid (by rw [begun_step HK.out, hj.out, HX.out, if_neg h1]; rfl)
        go_wp2_with fail
        go_roundw
        case rel => exact ⟨k + 1, by omega, by go_num, ⟨q, rfl, HS, by omega⟩, by first | exact hB.alloc hzr _ | exact (hB.alloc hzr _).setCell (by omega) _⟩
        case measure => simp [intOf]; omega
    · have hqz : q = z := by rw [← HZ.out, ← hj.out, show k = T.length by rw [HL.out]; omega, List.take_length]
      go_wp2
      go_ret
      exact ⟨by rw [hqz]; rfl, hB⟩

end Go.Proofs.Ytgapbaelifcifaa
