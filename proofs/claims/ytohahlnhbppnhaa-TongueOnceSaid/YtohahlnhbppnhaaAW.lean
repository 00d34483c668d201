/- Tongue: how many lines sentences take. -/
import Derived.Test.YtohahlnhbppnhaaAT
namespace Go.Proofs.Ytohahlnhbppnhaa
open Go.RowKit
set_option linter.unusedSimpArgs false
set_option linter.unusedVariables false

def sizeM (T : List Sen) : Int := (T.map Sen.size).sum

theorem sizeM_take (T : List Sen) (j : Nat) (hj : j < T.length) : sizeM (T.take (j + 1)) = sizeM (T.take j) + (T.getD j default).size := by
  unfold sizeM
  rw [List.take_add_one, List.map_append, List.sum_append, List.getD_eq_getElem?_getD, List.getElem?_eq_getElem hj]
  simp

theorem sizeM_bd (T : List Sen) (hz : ∀ s ∈ T, 1 ≤ s.size ∧ s.size ≤ 200) : (T.length : Int) ≤ sizeM T ∧ sizeM T ≤ 200 * T.length := by
  induction T with
  | nil => exact ⟨Int.le_refl _, Int.le_refl _⟩
  | cons s T ih =>
    have h1 := hz s List.mem_cons_self
    have h2 := ih (fun x hx => hz x (List.mem_cons_of_mem _ hx))
    have e : sizeM (s :: T) = s.size + sizeM T := rfl
    rw [e, List.length_cons]
    omega

theorem size_take_bd {T : List Sen} (hz : ∀ s ∈ T, 1 ≤ s.size ∧ s.size ≤ 200) (j : Nat) (hj : j ≤ T.length) : 0 ≤ sizeM (T.take j) ∧ sizeM (T.take j) ≤ 200 * j := by
  have h := sizeM_bd (T.take j) (fun s hs => hz s (List.mem_of_mem_take hs))
  rw [List.length_take, Nat.min_eq_left hj] at h
  omega

set_option maxRecDepth 100000 in
set_option maxHeartbeats 1000000 in
theorem size_any (T : List Sen) (n cap : Nat) (a : Option Addr) (w : World) (hT : T.length = n) (hn : n ≤ 1000) (hz : ∀ s ∈ T, 1 ≤ s.size ∧ s.size ≤ 200) (hS : TextAt w a T) :
    Calls Try.prog 86 #[.slice a n cap] w fun e w' => e = .returned (.int .i64 (sizeM T)) ∧ Below w.heap.size w w' := by
  have HB : Hid (∀ j, j ≤ n → 0 ≤ sizeM (T.take j) ∧ sizeM (T.take j) ≤ 200 * j) := hid (fun j hj => size_take_bd hz j (by omega))
  have HST : Hid (∀ j, j < n → sizeM (T.take (j + 1)) = sizeM (T.take j) + (T.getD j default).size) := hid (fun j hj => sizeM_take T j (by omega))
  have HZ : Hid (∀ j, j < n → 1 ≤ (T.getD j default).size ∧ (T.getD j default).size ≤ 200) := hid (fun j hj => hz _ (by rw [List.getD_eq_getElem?_getD, List.getElem?_eq_getElem (by omega)]; exact List.getElem_mem _))
  have HF : Hid (sizeM T = sizeM (T.take n)) := hid (by rw [← hT, List.take_length])
  have HT := hid hT
  clear hT hz
  go_enter Try.func86, Try.ntmps86
  go_wp2_with fail
  go_loopw [3, 5, 8] (fun v _ i wr => ∃ (j : Nat) (s : Int), j ≤ n ∧ i = .int .i64 j ∧ v = .int .i64 s ∧ Hid (s = sizeM (T.take j)) ∧ Below w.heap.size w wr) (fun _ _ i _ => n - (intOf i).toNat)
  case atStart => exact ⟨0, 0, Nat.zero_le _, rfl, rfl, hid rfl, Below.refl _ _⟩
  case round =>
    obtain ⟨j, s, hj, rfl, rfl, HS, hB⟩ := hrel
    have hs : 0 ≤ s ∧ s ≤ 200 * j := by rw [HS.out]; exact HB.out j hj
    by_cases hlt : j < n
    · have hlt' : (j : Int) < n := by omega
      obtain ⟨b, off, ma, mc, ea, c0, c1, -⟩ := (hS.grown hB) j (by rw [HT.out]; exact hlt)
      subst ea
      have gc := lt_of_cell c0
      have hst := HST.out j hlt
      have hz1 := HZ.out j hlt
      generalize (T.getD j default).size = z at c1 hst hz1
      generalize (T.getD j default).marks.length = k at c0
      have HST1 := hid hst
      clear hst
      go_wp2_with fail
      go_roundw
      case rel => exact ⟨j + 1, s + z, by omega, by go_num, by go_num, hid (by rw [HST1.out, HS.out]), hB.trans ((Below.refl _ wr).alloc hB.size _)⟩
      case measure => simp [intOf]; omega
    · have hjn : j = n := by omega
      subst hjn
      have hz : sizeM T = s := by rw [HF.out, HS.out]
      have HFZ := hid hz
      clear hz
      go_wp2_with fail
      go_ret
      exact ⟨by rw [HFZ.out]; rfl, hB⟩

set_option maxRecDepth 100000 in
set_option maxHeartbeats 1000000 in
/-- The reference's size. -/
theorem refSize_any (T : List Sen) (n cap : Nat) (a : Option Addr) (w : World) (hT : T.length = n) (hn : n ≤ 1000) (hz : ∀ s ∈ T, 1 ≤ s.size ∧ s.size ≤ 200) (hS : TextAt w a T) :
    Calls Try.prog 50 #[.slice a n cap] w fun e w' => e = .returned (.int .i64 (sizeM T)) ∧ Below w.heap.size w w' := by
  have HB : Hid (∀ j, j ≤ n → 0 ≤ sizeM (T.take j) ∧ sizeM (T.take j) ≤ 200 * j) := hid (fun j hj => size_take_bd hz j (by omega))
  have HST : Hid (∀ j, j < n → sizeM (T.take (j + 1)) = sizeM (T.take j) + (T.getD j default).size) := hid (fun j hj => sizeM_take T j (by omega))
  have HZ : Hid (∀ j, j < n → 1 ≤ (T.getD j default).size ∧ (T.getD j default).size ≤ 200) := hid (fun j hj => hz _ (by rw [List.getD_eq_getElem?_getD, List.getElem?_eq_getElem (by omega)]; exact List.getElem_mem _))
  have HF : Hid (sizeM T = sizeM (T.take n)) := hid (by rw [← hT, List.take_length])
  have HT := hid hT
  clear hT hz
  go_enter Try.func50, Try.ntmps50
  go_wp2_with fail
  go_loopw [3, 4] (fun v i wr => ∃ (j : Nat) (s : Int), j ≤ n ∧ i = .int .i64 j ∧ v = .int .i64 s ∧ Hid (s = sizeM (T.take j)) ∧ Below w.heap.size w wr) (fun _ i _ => n - (intOf i).toNat)
  case atStart => exact ⟨0, 0, Nat.zero_le _, rfl, rfl, hid rfl, Below.refl _ _⟩
  case round =>
    obtain ⟨j, s, hj, rfl, rfl, HS, hB⟩ := hrel
    have hs : 0 ≤ s ∧ s ≤ 200 * j := by rw [HS.out]; exact HB.out j hj
    by_cases hlt : j < n
    · have hlt' : (j : Int) < n := by omega
      obtain ⟨b, off, ma, mc, ea, c0, c1, -⟩ := (hS.grown hB) j (by rw [HT.out]; exact hlt)
      subst ea
      have gc := lt_of_cell c0
      have hst := HST.out j hlt
      have hz1 := HZ.out j hlt
      generalize (T.getD j default).size = z at c1 hst hz1
      generalize (T.getD j default).marks.length = k at c0
      have HST1 := hid hst
      clear hst
      go_wp2_with fail
      go_roundw
      case rel => exact ⟨j + 1, s + z, by omega, by go_num, by go_num, hid (by rw [HST1.out, HS.out]), hB⟩
      case measure => simp [intOf]; omega
    · have hjn : j = n := by omega
      subst hjn
      have hz : sizeM T = s := by rw [HF.out, HS.out]
      have HFZ := hid hz
      clear hz
      go_wp2_with fail
      go_ret
      exact ⟨by rw [HFZ.out]; rfl, hB⟩

end Go.Proofs.Ytohahlnhbppnhaa
