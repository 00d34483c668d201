/- Mend, the laws: parts of a request's own error by the reference: owns, Olds, Becomes. -/
import Derived.Test.YtbampfkmgjfofaaGreatDoorCC
import Derived.Test.YtbampfkmgjfofaaGreatDoorCI
namespace Go.Proofs.YtbampfkmgjfofaaGreatDoor
open Go.RowKit

set_option maxRecDepth 100000 in
set_option maxHeartbeats 1000000 in
theorem owns_any (R : List (Tx × Int)) (out win : Int) (n cap : Nat) (a : Option Addr) (k b : Int) (w : World) (hR : R.length = n) (hn : n ≤ 1000) (hS : Nums w a R) :
    Calls Tryz.prog 81 #[.agg #[.slice a n cap, .int .i64 out, .int .i64 win], .int .i64 k, .int .i64 b] w fun e w' => e = .returned (.bool (ownZ R b k)) ∧ Below w.heap.size w w' := by
  obtain ⟨z, hz⟩ : ∃ z, ownZ R b k = z := ⟨_, rfl⟩
  rw [hz]
  have HZ : Hid ((inB k 0 ((n : Int) - 1) && decide ((R.getD k.toNat (.empty, 0)).2 = b)) = z) := hid (by rw [← hz, ownZ, hR])
  have HR := hid hR
  clear hz hR
  obtain ⟨W0, hW0⟩ : ∃ W, W = w.alloc (.cells #[.slice a n cap, .int .i64 out, .int .i64 win] 56) := ⟨_, rfl⟩
  have hB0 : Below w.heap.size w W0 := by rw [hW0]; exact below_alloc w _
  have r0 : W0.cell? ⟨w.heap.size, 0, none⟩ = some (.slice a n cap) := by rw [hW0]; simp [go_sem]
  have rl := lt_of_cell r0
  have hS0 := hS.grown hB0
  clear hS
  have hn1 : (n : Int) ≤ 1000 := by omega
  go_enter Tryz.func81, Tryz.ntmps81
  go_wp2_with fail
  rw [← hW0]
  clear hW0
  cases hi : inB k 0 ((n : Int) - 1)
  · have hzf : z = false := by rw [← HZ.out, hi]; rfl
    go_wp2_with (go_at_call 49; refine (rin_any _ _ _ _).mono ?_; rintro e w'' ⟨rfl, rfl⟩; rw [hi])
    go_ret
    exact ⟨by first | rfl | (rw [hzf]; rfl), hB0⟩
  · have hk : 0 ≤ k ∧ k ≤ (n : Int) - 1 := by simpa [inB] using hi
    obtain ⟨t, ht⟩ : ∃ t : Nat, k = t := ⟨k.toNat, by omega⟩
    subst ht
    have htn : t < n := by omega
    have htn' : (t : Int) < (n : Int) := by omega
    obtain ⟨bb, off, rfl, e0, e1⟩ := hS0 t (by rw [HR.out]; exact htn)
    have HZ2 : Hid (decide ((R.getD t (.empty, 0)).2 = b) = z) := hid (by rw [← HZ.out, hi, Int.toNat_natCast]; rfl)
    generalize R.getD t (.empty, 0) = x at e0 e1 HZ2
    obtain ⟨x1, x2⟩ := x
    simp only at e0 e1
    have gb := lt_of_cell e1
    by_cases hx : x2 = b
    · have hzf : z = true := by rw [← HZ2.out]; simpa using hx
      have hb : (x2 == b) = true := by simpa using hx
      clear hx hk
      go_wp2_with (go_at_call 49; refine (rin_any _ _ _ _).mono ?_; rintro e w'' ⟨rfl, rfl⟩; rw [hi])
      go_ret
      exact ⟨by first | rfl | (rw [hzf]; rfl), hB0⟩
    · have hzf : z = false := by rw [← HZ2.out]; simpa using hx
      have hb : (x2 == b) = false := by simpa using hx
      clear hx hk
      go_wp2_with (go_at_call 49; refine (rin_any _ _ _ _).mono ?_; rintro e w'' ⟨rfl, rfl⟩; rw [hi])
      go_ret
      exact ⟨by first | rfl | (rw [hzf]; rfl), hB0⟩

theorem textsM_snoc {R : List (Tx × Int)} {l j : Nat} (h : l + j < R.length) : textsM R l (j + 1) = textsM R l j ++ [(R.getD (l + j) (.empty, 0)).1] := by
  unfold textsM
  rw [List.take_add_one, List.map_append, List.getElem?_drop, List.getElem?_eq_getElem h, List.getD_eq_getElem?_getD, List.getElem?_eq_getElem h]
  rfl

/-- What Olds returns, with its memory. -/
def OldsPost (R : List (Tx × Int)) (l k : Nat) (w : World) (e : Ending) (w' : World) : Prop := ∃ ra rc, e = .returned (.slice ra k rc) ∧ Strs w' ra (textsM R l k) ∧ Below w.heap.size w w'

set_option maxRecDepth 100000 in
set_option maxHeartbeats 2000000 in
theorem olds_any (R : List (Tx × Int)) (out win : Int) (n cap : Nat) (a : Option Addr) (l k : Nat) (w : World) (hR : R.length = n) (hn : n ≤ 1000) (hS : Nums w a R) (hlk : l + k ≤ n) :
    Calls Tryz.prog 47 #[.agg #[.slice a n cap, .int .i64 out, .int .i64 win], .int .i64 (l : Int), .int .i64 ((l : Int) + k)] w (OldsPost R l k w) := by
  have HR := hid hR
  clear hR
  obtain ⟨i0, hi, hz0, hz1, hz2⟩ := info_parts Tryz.info9
  obtain ⟨W0, hW0⟩ : ∃ W, W = w.alloc (.cells #[.slice a n cap, .int .i64 out, .int .i64 win] 56) := ⟨_, rfl⟩
  have hB0 : Below w.heap.size w W0 := by rw [hW0]; exact below_alloc w _
  have r0 : W0.cell? ⟨w.heap.size, 0, none⟩ = some (.slice a n cap) := by rw [hW0]; simp [go_sem]
  have hS0 := hS.grown hB0
  have z0 : W0.heap.size = w.heap.size + 1 := by rw [hW0]; simp
  clear hS
  have hl1 : (l : Int) + k ≤ 1000 := by omega
  go_enter Tryz.func47, Tryz.ntmps47
  go_wp2_with fail
  rw [← hW0]
  clear hW0
  go_loopw [7, 8] (fun v i wr => ∃ j : Nat, j ≤ k ∧ i = .int .i64 ((l + j : Nat) : Int) ∧ wr.ownsRow W0.heap.size 9 1 v j (flatV strC (textsM R l j)) ∧ Below W0.heap.size W0 wr) (fun _ i _ => l + k - (intOf i).toNat)
  case atStart => exact ⟨0, Nat.zero_le _, rfl, World.ownsRow_nil _ _ _ _, Below.refl _ _⟩
  case round =>
    obtain ⟨j, hj, rfl, hown, hB⟩ := hrel
    have hz := hB.size
    by_cases hlt : j < k
    · have hlt' : ((l + j : Nat) : Int) < (l : Int) + k := by omega
      have hlt2 : ((l + j : Nat) : Int) < (n : Int) := by omega
      obtain ⟨b, off, rfl, e0, e1⟩ := (hS0.grown hB) (l + j) (by rw [HR.out]; omega)
      have hts := textsM_snoc (R := R) (l := l) (j := j) (by rw [HR.out]; omega)
      generalize R.getD (l + j) (.empty, 0) = x at e0 e1 hts
      obtain ⟨x1, x2⟩ := x
      have HTS := hid hts
      simp only at e0 e1
      clear hts hlt
      have gb := lt_of_cell e0
      have s0 := cell_grown hB r0
      have sl := lt_of_cell s0
      have hj1 : ((l + j : Nat) : Int) ≤ 1000 := by omega
      generalize hp : l + j = p at e0 e1 hlt' hlt2 hj1
      have HP := hid hp
      clear hp
      go_wp2_with (at_builtin; refine wpList_append_own _ rfl _ _ 24 rfl W0.heap.size 9 i0 (.string .empty) 1 16 Tryz.underlying24 hi hz0 hz1 hz2 rfl (by decide) _ _ _ rfl (hown.alloc _) ⟨wr.heap.size, 0, none⟩ 1 1 [.string x1] rfl rfl (cells_new wr #[.string x1] 9) (fun x hx => by simp at hx; subst hx; rfl) (by unfold maxLen; omega) (by omega) (by simp; omega) ?_; intro v' w5 hown' hgrow5 hnil5; have hb5 := below_of_grown hB hown hgrow5 hz; clear hgrow5 hnil5)
      go_roundw
      case rel => exact ⟨j + 1, by have := HP.out; omega, by rw [show l + (j + 1) = p + 1 by have := HP.out; omega]; go_num, by rw [HTS.out, flatV_snoc]; exact hown', hb5⟩
      case measure => have := HP.out; simp [intOf]; omega
    · have hjk : j = k := by omega
      subst hjk
      obtain ⟨ra, rc, rfl⟩ := owns_shape hown
      have HO := hid (strs_of_ownsN hown (textsM_length HR.out hlk))
      have hlt' : ¬ ((l + j : Nat) : Int) < (l : Int) + j := by omega
      clear hown hlt
      go_wp2
      go_ret
      exact ⟨ra, rc, rfl, HO.out, below_then hB0 hB⟩

end Go.Proofs.YtbampfkmgjfofaaGreatDoor
