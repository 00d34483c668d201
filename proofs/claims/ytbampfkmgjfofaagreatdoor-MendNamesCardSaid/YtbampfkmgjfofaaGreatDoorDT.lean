/- Mend, the laws: MendNames in numbers. Mend: the law MendNames, walked. -/
import Derived.Test.YtbampfkmgjfofaaGreatDoorCW
import Derived.Test.YtbampfkmgjfofaaGreatDoorDM
import Derived.Test.YtbampfkmgjfofaaGreatDoorDP
import Derived.Deep.RegionHeld3
import Derived.IntWalk
namespace Go.Proofs.YtbampfkmgjfofaaGreatDoor
open Go.RowKit

def tOnce9 : Tx := ⟨#[111, 110, 99, 101]⟩
def tTwice9 : Tx := ⟨#[116, 119, 105, 99, 101]⟩
def tPays9 : Tx := ⟨#[112, 97, 121, 115]⟩
def tA9 : Tx := ⟨#[97]⟩
def tB9 : Tx := ⟨#[98]⟩

/-- The requests that meet. -/
def meet8 : List Req := [⟨1, 100, 1, 0, [tOnce9]⟩, ⟨1, 101, 1, 0, [tTwice9]⟩, ⟨1, 102, 1, 1, [tPays9]⟩, ⟨1, 99, 1, 1, []⟩, ⟨1, 103, 0, 2, [tSmyth, tPaid]⟩, ⟨1, 100, 3, 2, []⟩, ⟨1, 100, 4, 0, [tA9]⟩, ⟨1, 100, 1, 0, []⟩]

def want4 : List Seg := [([tSmith], [tSmith], -1), ([tPaid], [tHas, tPaid], 0), ([tTen], [t12], 1), ([tYes], [tYes], -1)]

theorem namesA_e : troubleErr lex0 [] [tNot, tTen] [tNever, t12] = 0 ∧ troubleErr lex0 [] [tSmith, tTen] [tTen, tJones, tSmith] = 0 := by decide +kernel
theorem namesA_s : senseM (entries lex0) [tSmith, tTen] = [(2, 0), (1, 10)] ∧ senseM (entries lex0) [tTen, tJones, tSmith] = [(1, 10), (2, 1), (2, 0)] := by decide +kernel

theorem namesA : troubleF lex0 [] [tNot, tTen] [tNever, t12] = 1 ∧ troubleF lex0 [] [tSmith, tTen] [tTen, tJones, tSmith] = 3 := by
  refine ⟨?_, ?_⟩
  · rw [troubleF, namesA_e.1, if_pos rfl, trouble0a, trouble0b, troubleM]
    simp [tabM, may_nil]
    omega
  · rw [troubleF, namesA_e.2, if_pos rfl, namesA_s.1, namesA_s.2, troubleM]
    simp [tabM, may_nil]
    omega

theorem names_segs : segM rep0 (putM reqs0) ((enumA reqs0 (decideM lex0 swaps0 rep0 100 60 reqs0) 5 5).map (askI reqs0)) = want4 := by decide +kernel
theorem names_hear : hearErr lex0 swaps0 rep0 100 60 meet8 = 0 := by decide +kernel
theorem names_decide : (List.range 8).map (decideM lex0 swaps0 rep0 100 60 meet8) = [0, 6, 0, 11, 6, 2, 5, 1] := by decide +kernel
theorem names_dec8 : decideM lex0 swaps0 rep0 100 60 meet8 0 = 0 ∧ decideM lex0 swaps0 rep0 100 60 meet8 1 = 6 ∧ decideM lex0 swaps0 rep0 100 60 meet8 2 = 0 ∧ decideM lex0 swaps0 rep0 100 60 meet8 3 = 11 ∧ decideM lex0 swaps0 rep0 100 60 meet8 4 = 6 ∧ decideM lex0 swaps0 rep0 100 60 meet8 5 = 2 ∧ decideM lex0 swaps0 rep0 100 60 meet8 6 = 5 ∧ decideM lex0 swaps0 rep0 100 60 meet8 7 = 1 := by decide +kernel
theorem names_long : senseErr lex0 (List.replicate 81 .empty) = 3 ∧ senseErr lex0 [.empty] = 1 ∧ troubleErr lex0 [(3, 0, 0)] [] [] = 1 ∧ hearErr lex0 (List.replicate 21 (0, 0, 0)) rep0 100 60 [] = 3 ∧ hearErr lex0 [] rep0 100 60 (List.replicate 21 default) = 3 := by decide +kernel
theorem names_lex : lexErr ⟨[], [[tA9], [tB9, tA9]], []⟩ = 6 ∧ lexErr ⟨[], [[]], []⟩ = 1 ∧ reportErr [] (-1) 0 = 1 := by decide +kernel

end Go.Proofs.YtbampfkmgjfofaaGreatDoor

namespace Go.Proofs.YtbampfkmgjfofaaGreatDoor
open Go.RowKit

/-- The memory of the segments that are wanted. -/
def segsW (w : World) : World := (((((((((w.alloc (.cells #[.string tSmith] 9)).alloc (.cells #[.string tSmith] 9)).alloc (.cells #[.string tPaid] 9)).alloc (.cells #[.string tHas, .string tPaid] 9)).alloc (.cells #[.string tTen] 9)).alloc (.cells #[.string t12] 9)).alloc (.cells #[.string tYes] 9)).alloc (.cells #[.string tYes] 9)).alloc (.cells #[.slice (some ⟨w.heap.size, 0, none⟩) 1 1, .slice (some ⟨w.heap.size + 1, 0, none⟩) 1 1, .int .i64 (-1), .slice (some ⟨w.heap.size + 1 + 1, 0, none⟩) 1 1, .slice (some ⟨w.heap.size + 1 + 1 + 1, 0, none⟩) 2 2, .int .i64 0, .slice (some ⟨w.heap.size + 1 + 1 + 1 + 1, 0, none⟩) 1 1, .slice (some ⟨w.heap.size + 1 + 1 + 1 + 1 + 1, 0, none⟩) 1 1, .int .i64 1, .slice (some ⟨w.heap.size + 1 + 1 + 1 + 1 + 1 + 1, 0, none⟩) 1 1, .slice (some ⟨w.heap.size + 1 + 1 + 1 + 1 + 1 + 1 + 1, 0, none⟩) 1 1, .int .i64 (-1)] 85))

theorem segsW_below (w : World) : Below w.heap.size w (segsW w) := by
  unfold segsW
  exact ((((((((((Below.refl _ w).alloc (Nat.le_refl _) _).alloc (by simp) _).alloc (by simp; omega) _).alloc (by simp; omega) _).alloc (by simp; omega) _).alloc (by simp; omega) _).alloc (by simp; omega) _).alloc (by simp; omega) _).alloc (by simp; omega) _)

theorem strs_none (w : World) : Strs w none [] := fun i hi => by cases hi

theorem segsW_at (w : World) : SegsAt (segsW w) (some ⟨w.heap.size + 1 + 1 + 1 + 1 + 1 + 1 + 1 + 1, 0, none⟩) want4 := by
  have s00 : (segsW w).cell? ⟨w.heap.size, 0, none⟩ = some (.string tSmith) := by unfold segsW; simp [go_sem]
  have s10 : (segsW w).cell? ⟨w.heap.size + 1, 0, none⟩ = some (.string tSmith) := by unfold segsW; simp [go_sem]
  have s20 : (segsW w).cell? ⟨w.heap.size + 1 + 1, 0, none⟩ = some (.string tPaid) := by unfold segsW; simp [go_sem]
  have s30 : (segsW w).cell? ⟨w.heap.size + 1 + 1 + 1, 0, none⟩ = some (.string tHas) := by unfold segsW; simp [go_sem]
  have s31 : (segsW w).cell? ⟨w.heap.size + 1 + 1 + 1, 1, none⟩ = some (.string tPaid) := by unfold segsW; simp [go_sem]
  have s40 : (segsW w).cell? ⟨w.heap.size + 1 + 1 + 1 + 1, 0, none⟩ = some (.string tTen) := by unfold segsW; simp [go_sem]
  have s50 : (segsW w).cell? ⟨w.heap.size + 1 + 1 + 1 + 1 + 1, 0, none⟩ = some (.string t12) := by unfold segsW; simp [go_sem]
  have s60 : (segsW w).cell? ⟨w.heap.size + 1 + 1 + 1 + 1 + 1 + 1, 0, none⟩ = some (.string tYes) := by unfold segsW; simp [go_sem]
  have s70 : (segsW w).cell? ⟨w.heap.size + 1 + 1 + 1 + 1 + 1 + 1 + 1, 0, none⟩ = some (.string tYes) := by unfold segsW; simp [go_sem]
  have c0 : (segsW w).cell? ⟨w.heap.size + 1 + 1 + 1 + 1 + 1 + 1 + 1 + 1, 0, none⟩ = some (.slice (some ⟨w.heap.size, 0, none⟩) 1 1) := by unfold segsW; simp [go_sem]
  have c1 : (segsW w).cell? ⟨w.heap.size + 1 + 1 + 1 + 1 + 1 + 1 + 1 + 1, 1, none⟩ = some (.slice (some ⟨w.heap.size + 1, 0, none⟩) 1 1) := by unfold segsW; simp [go_sem]
  have c2 : (segsW w).cell? ⟨w.heap.size + 1 + 1 + 1 + 1 + 1 + 1 + 1 + 1, 2, none⟩ = some (.int .i64 (-1)) := by unfold segsW; simp [go_sem]
  have c3 : (segsW w).cell? ⟨w.heap.size + 1 + 1 + 1 + 1 + 1 + 1 + 1 + 1, 3, none⟩ = some (.slice (some ⟨w.heap.size + 1 + 1, 0, none⟩) 1 1) := by unfold segsW; simp [go_sem]
  have c4 : (segsW w).cell? ⟨w.heap.size + 1 + 1 + 1 + 1 + 1 + 1 + 1 + 1, 4, none⟩ = some (.slice (some ⟨w.heap.size + 1 + 1 + 1, 0, none⟩) 2 2) := by unfold segsW; simp [go_sem]
  have c5 : (segsW w).cell? ⟨w.heap.size + 1 + 1 + 1 + 1 + 1 + 1 + 1 + 1, 5, none⟩ = some (.int .i64 0) := by unfold segsW; simp [go_sem]
  have c6 : (segsW w).cell? ⟨w.heap.size + 1 + 1 + 1 + 1 + 1 + 1 + 1 + 1, 6, none⟩ = some (.slice (some ⟨w.heap.size + 1 + 1 + 1 + 1, 0, none⟩) 1 1) := by unfold segsW; simp [go_sem]
  have c7 : (segsW w).cell? ⟨w.heap.size + 1 + 1 + 1 + 1 + 1 + 1 + 1 + 1, 7, none⟩ = some (.slice (some ⟨w.heap.size + 1 + 1 + 1 + 1 + 1, 0, none⟩) 1 1) := by unfold segsW; simp [go_sem]
  have c8 : (segsW w).cell? ⟨w.heap.size + 1 + 1 + 1 + 1 + 1 + 1 + 1 + 1, 8, none⟩ = some (.int .i64 1) := by unfold segsW; simp [go_sem]
  have c9 : (segsW w).cell? ⟨w.heap.size + 1 + 1 + 1 + 1 + 1 + 1 + 1 + 1, 9, none⟩ = some (.slice (some ⟨w.heap.size + 1 + 1 + 1 + 1 + 1 + 1, 0, none⟩) 1 1) := by unfold segsW; simp [go_sem]
  have c10 : (segsW w).cell? ⟨w.heap.size + 1 + 1 + 1 + 1 + 1 + 1 + 1 + 1, 10, none⟩ = some (.slice (some ⟨w.heap.size + 1 + 1 + 1 + 1 + 1 + 1 + 1, 0, none⟩) 1 1) := by unfold segsW; simp [go_sem]
  have c11 : (segsW w).cell? ⟨w.heap.size + 1 + 1 + 1 + 1 + 1 + 1 + 1 + 1, 11, none⟩ = some (.int .i64 (-1)) := by unfold segsW; simp [go_sem]
  intro i hi
  rcases (by simp [want4] at hi; omega : i = 0 ∨ i = 1 ∨ i = 2 ∨ i = 3) with rfl | rfl | rfl | rfl
  · exact ⟨_, 0, _, _, _, _, rfl, c0, c1, c2, strs_one s00, strs_one s10⟩
  · exact ⟨_, 0, _, _, _, _, rfl, c3, c4, c5, strs_one s20, strs_two s30 s31⟩
  · exact ⟨_, 0, _, _, _, _, rfl, c6, c7, c8, strs_one s40, strs_one s50⟩
  · exact ⟨_, 0, _, _, _, _, rfl, c9, c10, c11, strs_one s60, strs_one s70⟩

/-- The memory of the requests that meet. -/
def meetW (w : World) : World := ((((((w.alloc (.cells #[.string tOnce9] 9)).alloc (.cells #[.string tTwice9] 9)).alloc (.cells #[.string tPays9] 9)).alloc (.cells #[.string tSmyth, .string tPaid] 9)).alloc (.cells #[.string tA9] 9)).alloc (.cells #[.int .i64 1, .int .i64 100, .int .i64 1, .int .i64 0, .slice (some ⟨w.heap.size, 0, none⟩) 1 1, .int .i64 1, .int .i64 101, .int .i64 1, .int .i64 0, .slice (some ⟨w.heap.size + 1, 0, none⟩) 1 1, .int .i64 1, .int .i64 102, .int .i64 1, .int .i64 1, .slice (some ⟨w.heap.size + 1 + 1, 0, none⟩) 1 1, .int .i64 1, .int .i64 99, .int .i64 1, .int .i64 1, .slice none 0 0, .int .i64 1, .int .i64 103, .int .i64 0, .int .i64 2, .slice (some ⟨w.heap.size + 1 + 1 + 1, 0, none⟩) 2 2, .int .i64 1, .int .i64 100, .int .i64 3, .int .i64 2, .slice none 0 0, .int .i64 1, .int .i64 100, .int .i64 4, .int .i64 0, .slice (some ⟨w.heap.size + 1 + 1 + 1 + 1, 0, none⟩) 1 1, .int .i64 1, .int .i64 100, .int .i64 1, .int .i64 0, .slice none 0 0] 87))

theorem meetW_below (w : World) : Below w.heap.size w (meetW w) := by
  unfold meetW
  exact (((((((Below.refl _ w).alloc (Nat.le_refl _) _).alloc (by simp) _).alloc (by simp; omega) _).alloc (by simp; omega) _).alloc (by simp; omega) _).alloc (by simp; omega) _)

theorem meetW_at (w : World) : ReqsAt (meetW w) (some ⟨w.heap.size + 1 + 1 + 1 + 1 + 1, 0, none⟩) meet8 := by
  have s00 : (meetW w).cell? ⟨w.heap.size, 0, none⟩ = some (.string tOnce9) := by unfold meetW; simp [go_sem]
  have s10 : (meetW w).cell? ⟨w.heap.size + 1, 0, none⟩ = some (.string tTwice9) := by unfold meetW; simp [go_sem]
  have s20 : (meetW w).cell? ⟨w.heap.size + 1 + 1, 0, none⟩ = some (.string tPays9) := by unfold meetW; simp [go_sem]
  have s30 : (meetW w).cell? ⟨w.heap.size + 1 + 1 + 1, 0, none⟩ = some (.string tSmyth) := by unfold meetW; simp [go_sem]
  have s31 : (meetW w).cell? ⟨w.heap.size + 1 + 1 + 1, 1, none⟩ = some (.string tPaid) := by unfold meetW; simp [go_sem]
  have s40 : (meetW w).cell? ⟨w.heap.size + 1 + 1 + 1 + 1, 0, none⟩ = some (.string tA9) := by unfold meetW; simp [go_sem]
  have c0 : (meetW w).cell? ⟨w.heap.size + 1 + 1 + 1 + 1 + 1, 0, none⟩ = some (.int .i64 1) := by unfold meetW; simp [go_sem]
  have c1 : (meetW w).cell? ⟨w.heap.size + 1 + 1 + 1 + 1 + 1, 1, none⟩ = some (.int .i64 100) := by unfold meetW; simp [go_sem]
  have c2 : (meetW w).cell? ⟨w.heap.size + 1 + 1 + 1 + 1 + 1, 2, none⟩ = some (.int .i64 1) := by unfold meetW; simp [go_sem]
  have c3 : (meetW w).cell? ⟨w.heap.size + 1 + 1 + 1 + 1 + 1, 3, none⟩ = some (.int .i64 0) := by unfold meetW; simp [go_sem]
  have c4 : (meetW w).cell? ⟨w.heap.size + 1 + 1 + 1 + 1 + 1, 4, none⟩ = some (.slice (some ⟨w.heap.size, 0, none⟩) 1 1) := by unfold meetW; simp [go_sem]
  have c5 : (meetW w).cell? ⟨w.heap.size + 1 + 1 + 1 + 1 + 1, 5, none⟩ = some (.int .i64 1) := by unfold meetW; simp [go_sem]
  have c6 : (meetW w).cell? ⟨w.heap.size + 1 + 1 + 1 + 1 + 1, 6, none⟩ = some (.int .i64 101) := by unfold meetW; simp [go_sem]
  have c7 : (meetW w).cell? ⟨w.heap.size + 1 + 1 + 1 + 1 + 1, 7, none⟩ = some (.int .i64 1) := by unfold meetW; simp [go_sem]
  have c8 : (meetW w).cell? ⟨w.heap.size + 1 + 1 + 1 + 1 + 1, 8, none⟩ = some (.int .i64 0) := by unfold meetW; simp [go_sem]
  have c9 : (meetW w).cell? ⟨w.heap.size + 1 + 1 + 1 + 1 + 1, 9, none⟩ = some (.slice (some ⟨w.heap.size + 1, 0, none⟩) 1 1) := by unfold meetW; simp [go_sem]
  have c10 : (meetW w).cell? ⟨w.heap.size + 1 + 1 + 1 + 1 + 1, 10, none⟩ = some (.int .i64 1) := by unfold meetW; simp [go_sem]
  have c11 : (meetW w).cell? ⟨w.heap.size + 1 + 1 + 1 + 1 + 1, 11, none⟩ = some (.int .i64 102) := by unfold meetW; simp [go_sem]
  have c12 : (meetW w).cell? ⟨w.heap.size + 1 + 1 + 1 + 1 + 1, 12, none⟩ = some (.int .i64 1) := by unfold meetW; simp [go_sem]
  have c13 : (meetW w).cell? ⟨w.heap.size + 1 + 1 + 1 + 1 + 1, 13, none⟩ = some (.int .i64 1) := by unfold meetW; simp [go_sem]
  have c14 : (meetW w).cell? ⟨w.heap.size + 1 + 1 + 1 + 1 + 1, 14, none⟩ = some (.slice (some ⟨w.heap.size + 1 + 1, 0, none⟩) 1 1) := by unfold meetW; simp [go_sem]
  have c15 : (meetW w).cell? ⟨w.heap.size + 1 + 1 + 1 + 1 + 1, 15, none⟩ = some (.int .i64 1) := by unfold meetW; simp [go_sem]
  have c16 : (meetW w).cell? ⟨w.heap.size + 1 + 1 + 1 + 1 + 1, 16, none⟩ = some (.int .i64 99) := by unfold meetW; simp [go_sem]
  have c17 : (meetW w).cell? ⟨w.heap.size + 1 + 1 + 1 + 1 + 1, 17, none⟩ = some (.int .i64 1) := by unfold meetW; simp [go_sem]
  have c18 : (meetW w).cell? ⟨w.heap.size + 1 + 1 + 1 + 1 + 1, 18, none⟩ = some (.int .i64 1) := by unfold meetW; simp [go_sem]
  have c19 : (meetW w).cell? ⟨w.heap.size + 1 + 1 + 1 + 1 + 1, 19, none⟩ = some (.slice none 0 0) := by unfold meetW; simp [go_sem]
  have c20 : (meetW w).cell? ⟨w.heap.size + 1 + 1 + 1 + 1 + 1, 20, none⟩ = some (.int .i64 1) := by unfold meetW; simp [go_sem]
  have c21 : (meetW w).cell? ⟨w.heap.size + 1 + 1 + 1 + 1 + 1, 21, none⟩ = some (.int .i64 103) := by unfold meetW; simp [go_sem]
  have c22 : (meetW w).cell? ⟨w.heap.size + 1 + 1 + 1 + 1 + 1, 22, none⟩ = some (.int .i64 0) := by unfold meetW; simp [go_sem]
  have c23 : (meetW w).cell? ⟨w.heap.size + 1 + 1 + 1 + 1 + 1, 23, none⟩ = some (.int .i64 2) := by unfold meetW; simp [go_sem]
  have c24 : (meetW w).cell? ⟨w.heap.size + 1 + 1 + 1 + 1 + 1, 24, none⟩ = some (.slice (some ⟨w.heap.size + 1 + 1 + 1, 0, none⟩) 2 2) := by unfold meetW; simp [go_sem]
  have c25 : (meetW w).cell? ⟨w.heap.size + 1 + 1 + 1 + 1 + 1, 25, none⟩ = some (.int .i64 1) := by unfold meetW; simp [go_sem]
  have c26 : (meetW w).cell? ⟨w.heap.size + 1 + 1 + 1 + 1 + 1, 26, none⟩ = some (.int .i64 100) := by unfold meetW; simp [go_sem]
  have c27 : (meetW w).cell? ⟨w.heap.size + 1 + 1 + 1 + 1 + 1, 27, none⟩ = some (.int .i64 3) := by unfold meetW; simp [go_sem]
  have c28 : (meetW w).cell? ⟨w.heap.size + 1 + 1 + 1 + 1 + 1, 28, none⟩ = some (.int .i64 2) := by unfold meetW; simp [go_sem]
  have c29 : (meetW w).cell? ⟨w.heap.size + 1 + 1 + 1 + 1 + 1, 29, none⟩ = some (.slice none 0 0) := by unfold meetW; simp [go_sem]
  have c30 : (meetW w).cell? ⟨w.heap.size + 1 + 1 + 1 + 1 + 1, 30, none⟩ = some (.int .i64 1) := by unfold meetW; simp [go_sem]
  have c31 : (meetW w).cell? ⟨w.heap.size + 1 + 1 + 1 + 1 + 1, 31, none⟩ = some (.int .i64 100) := by unfold meetW; simp [go_sem]
  have c32 : (meetW w).cell? ⟨w.heap.size + 1 + 1 + 1 + 1 + 1, 32, none⟩ = some (.int .i64 4) := by unfold meetW; simp [go_sem]
  have c33 : (meetW w).cell? ⟨w.heap.size + 1 + 1 + 1 + 1 + 1, 33, none⟩ = some (.int .i64 0) := by unfold meetW; simp [go_sem]
  have c34 : (meetW w).cell? ⟨w.heap.size + 1 + 1 + 1 + 1 + 1, 34, none⟩ = some (.slice (some ⟨w.heap.size + 1 + 1 + 1 + 1, 0, none⟩) 1 1) := by unfold meetW; simp [go_sem]
  have c35 : (meetW w).cell? ⟨w.heap.size + 1 + 1 + 1 + 1 + 1, 35, none⟩ = some (.int .i64 1) := by unfold meetW; simp [go_sem]
  have c36 : (meetW w).cell? ⟨w.heap.size + 1 + 1 + 1 + 1 + 1, 36, none⟩ = some (.int .i64 100) := by unfold meetW; simp [go_sem]
  have c37 : (meetW w).cell? ⟨w.heap.size + 1 + 1 + 1 + 1 + 1, 37, none⟩ = some (.int .i64 1) := by unfold meetW; simp [go_sem]
  have c38 : (meetW w).cell? ⟨w.heap.size + 1 + 1 + 1 + 1 + 1, 38, none⟩ = some (.int .i64 0) := by unfold meetW; simp [go_sem]
  have c39 : (meetW w).cell? ⟨w.heap.size + 1 + 1 + 1 + 1 + 1, 39, none⟩ = some (.slice none 0 0) := by unfold meetW; simp [go_sem]
  intro i hi
  rcases (by simp [meet8] at hi; omega : i = 0 ∨ i = 1 ∨ i = 2 ∨ i = 3 ∨ i = 4 ∨ i = 5 ∨ i = 6 ∨ i = 7) with rfl | rfl | rfl | rfl | rfl | rfl | rfl | rfl
  · exact ⟨_, 0, _, _, rfl, c0, c1, c2, c3, c4, by decide, strs_one s00⟩
  · exact ⟨_, 0, _, _, rfl, c5, c6, c7, c8, c9, by decide, strs_one s10⟩
  · exact ⟨_, 0, _, _, rfl, c10, c11, c12, c13, c14, by decide, strs_one s20⟩
  · exact ⟨_, 0, _, _, rfl, c15, c16, c17, c18, c19, by decide, strs_none _⟩
  · exact ⟨_, 0, _, _, rfl, c20, c21, c22, c23, c24, by decide, strs_two s30 s31⟩
  · exact ⟨_, 0, _, _, rfl, c25, c26, c27, c28, c29, by decide, strs_none _⟩
  · exact ⟨_, 0, _, _, rfl, c30, c31, c32, c33, c34, by decide, strs_one s40⟩
  · exact ⟨_, 0, _, _, rfl, c35, c36, c37, c38, c39, by decide, strs_none _⟩

theorem run_make_k {P : Program} (t e : TypeId) (z : Value) (zc : Array Value) (k bytes : Nat) (ht : P.underlying t = some (.slice e)) (hinfo : (P.info? e).map (fun i => (i.zero, i.size, i.bytes)) = some (some z, k, bytes)) (hzc : z.cells = zc)
    (n : Nat) (hbytes : bytes * n ≤ 281474976710656) (h63 : n ≤ 9223372036854775807) (w : World) :
    (Instr.makeSlice t (.int .i64 (n : Int)) (.int .i64 (n : Int))).run P w = .ok (.slice (some ⟨w.heap.size, 0, none⟩) n n) (w.alloc (.cells (madeCells zc (n * k)) e)) := by
  obtain ⟨i, hi, hzz⟩ := Option.map_eq_some_iff.1 hinfo
  simp only [Prod.mk.injEq] at hzz
  obtain ⟨hz, hs, hb⟩ := hzz
  have hb' : (i.bytes : Int) * (n : Int) ≤ 281474976710656 := by
    have h : ((i.bytes * n : Nat) : Int) ≤ 281474976710656 := by rw [hb]; omega
    rwa [Int.natCast_mul] at h
  have hr := run_make (P := P) w t e i z ht hi hz .i64 .i64 n n (by omega) (Int.le_refl _) hb' (by omega)
  simp only [Int.toNat_natCast, hs, hzc] at hr
  exact hr

theorem made_cell (W : World) (zc : Array Value) (N j : Nat) (e : TypeId) (v : Value) (hj : j < N) (hv : zc[j % zc.size]? = some v) : (W.alloc (.cells (madeCells zc N) e)).cell? ⟨W.heap.size, j, none⟩ = some v := by
  have h := (World.rowIs_alloc W (madeCells zc N) e (fun i => (zc[i % zc.size]?).getD default) (fun i hi => by
    rw [size_madeCells] at hi
    have hz : 0 < zc.size := by
      rcases Nat.eq_zero_or_pos zc.size with h0 | h0
      · rw [Array.getElem?_eq_none (by omega)] at hv
        cases hv
      · exact h0
    have hl : i % zc.size < zc.size := Nat.mod_lt _ hz
    simp [madeCells, hi, hl])).cell (i := j) (by rw [size_madeCells]; exact hj)
  rw [hv] at h
  exact h

theorem rep_get {α : Type} (n : Nat) (x d : α) (i : Nat) (h : i < n) : (List.replicate n x).getD i d = x := by
  rw [List.getD_eq_getElem?_getD, List.getElem?_replicate, if_pos h]
  rfl

theorem made_strs (W : World) : Strs (W.alloc (.cells (madeCells #[.string .empty] 81) 9)) (some ⟨W.heap.size, 0, none⟩) (List.replicate 81 .empty) := by
  intro i hi
  rw [List.length_replicate] at hi
  refine ⟨_, 0, rfl, ?_⟩
  rw [Nat.zero_add, rep_get 81 _ _ i hi]
  exact made_cell W _ 81 i 9 _ hi (by simp [Nat.mod_one])

theorem made_swaps (W : World) : SwapsAt (W.alloc (.cells (madeCells #[.int .u8 0, .int .i64 0, .int .i64 0] 63) 89)) (some ⟨W.heap.size, 0, none⟩) (List.replicate 21 (0, 0, 0)) := by
  intro i hi
  rw [List.length_replicate] at hi
  have hg : (List.replicate 21 ((0, 0, 0) : Int × Int × Int)).getD i (0, 0, 0) = (0, 0, 0) := rep_get 21 _ _ i hi
  rw [hg]
  have m0 : (i * 3) % 3 = 0 := by omega
  have m1 : (i * 3 + 1) % 3 = 1 := by omega
  have m2 : (i * 3 + 2) % 3 = 2 := by omega
  exact ⟨_, 0, rfl, by rw [Nat.zero_add]; exact made_cell W _ 63 (i * 3) 89 _ (by omega) (by simp [m0]), by rw [Nat.zero_add]; exact made_cell W _ 63 (i * 3 + 1) 89 _ (by omega) (by simp [m1]), by rw [Nat.zero_add]; exact made_cell W _ 63 (i * 3 + 2) 89 _ (by omega) (by simp [m2])⟩

theorem made_reqs (W : World) : ReqsAt (W.alloc (.cells (madeCells #[.int .i64 0, .int .i64 0, .int .i64 0, .int .i64 0, .slice none 0 0] 105) 87)) (some ⟨W.heap.size, 0, none⟩) (List.replicate 21 default) := by
  intro i hi
  rw [List.length_replicate] at hi
  have hg : (List.replicate 21 (default : Req)).getD i default = ⟨0, 0, 0, 0, []⟩ := rep_get 21 _ _ i hi
  rw [hg]
  have m0 : (i * 5) % 5 = 0 := by omega
  have m1 : (i * 5 + 1) % 5 = 1 := by omega
  have m2 : (i * 5 + 2) % 5 = 2 := by omega
  have m3 : (i * 5 + 3) % 5 = 3 := by omega
  have m4 : (i * 5 + 4) % 5 = 4 := by omega
  exact ⟨_, 0, none, 0, rfl, by rw [Nat.zero_add]; exact made_cell W _ 105 (i * 5) 87 _ (by omega) (by simp [m0]), by rw [Nat.zero_add]; exact made_cell W _ 105 (i * 5 + 1) 87 _ (by omega) (by simp [m1]), by rw [Nat.zero_add]; exact made_cell W _ 105 (i * 5 + 2) 87 _ (by omega) (by simp [m2]), by rw [Nat.zero_add]; exact made_cell W _ 105 (i * 5 + 3) 87 _ (by omega) (by simp [m3]), by rw [Nat.zero_add]; exact made_cell W _ 105 (i * 5 + 4) 87 _ (by omega) (by simp [m4]), by decide, strs_none _⟩

theorem Tryz.info9n : (Tryz.prog.info? 9).map (fun i => (i.zero, i.size, i.bytes)) = some (some (.string .empty), 1, 16) := by kernel_rfl
theorem Tryz.info87n : (Tryz.prog.info? 87).map (fun i => (i.zero, i.size, i.bytes)) = some (some (.agg #[.int .i64 0, .int .i64 0, .int .i64 0, .int .i64 0, .slice none 0 0]), 5, 56) := by kernel_rfl
theorem Tryz.info89n : (Tryz.prog.info? 89).map (fun i => (i.zero, i.size, i.bytes)) = some (some (.agg #[.int .u8 0, .int .i64 0, .int .i64 0]), 3, 24) := by kernel_rfl

theorem make81 (W : World) : (Instr.makeSlice 24 (.int .i64 81) (.int .i64 81)).run Tryz.prog W = .ok (.slice (some ⟨W.heap.size, 0, none⟩) 81 81) (W.alloc (.cells (madeCells #[.string .empty] 81) 9)) :=
  run_make_k 24 9 (.string .empty) #[.string .empty] 1 16 Tryz.underlying24 Tryz.info9n rfl 81 (by omega) (by omega) W

theorem make21s (W : World) : (Instr.makeSlice 49 (.int .i64 21) (.int .i64 21)).run Tryz.prog W = .ok (.slice (some ⟨W.heap.size, 0, none⟩) 21 21) (W.alloc (.cells (madeCells #[.int .u8 0, .int .i64 0, .int .i64 0] 63) 89)) :=
  run_make_k 49 89 (.agg #[.int .u8 0, .int .i64 0, .int .i64 0]) #[.int .u8 0, .int .i64 0, .int .i64 0] 3 24 Tryz.underlying49 Tryz.info89n rfl 21 (by omega) (by omega) W

theorem make21r (W : World) : (Instr.makeSlice 67 (.int .i64 21) (.int .i64 21)).run Tryz.prog W = .ok (.slice (some ⟨W.heap.size, 0, none⟩) 21 21) (W.alloc (.cells (madeCells #[.int .i64 0, .int .i64 0, .int .i64 0, .int .i64 0, .slice none 0 0] 105) 87)) :=
  run_make_k 67 87 (.agg #[.int .i64 0, .int .i64 0, .int .i64 0, .int .i64 0, .slice none 0 0]) #[.int .i64 0, .int .i64 0, .int .i64 0, .int .i64 0, .slice none 0 0] 5 56 Tryz.underlying67 Tryz.info87n rfl 21 (by omega) (by omega) W

set_option maxRecDepth 100000 in
set_option maxHeartbeats 20000000 in
theorem mendNames_any (w : World) (hstd : Std w) : Calls Tryz.prog 7 #[] w fun e w' => e = .returned (.bool true) ∧ Below w.heap.size w w' := by
  go_enter Tryz.func7, Tryz.ntmps7
  go_wp2_with fail
  refine (words_any w).mono ?_
  rintro e w1 ⟨a1, a2, a3, sa, rfl, hL, hS, hb1⟩
  have HB := hid hb1
  replace hstd := hstd.grown hb1
  clear hb1
  obtain ⟨lb, hlb⟩ : ∃ b, w1.heap.size = b := ⟨_, rfl⟩
  obtain ⟨W2, hW2⟩ : ∃ W, W = w1.alloc (.cells #[.slice a1 2 2, .slice a2 2 2, .slice a3 2 2] 34) := ⟨_, rfl⟩
  have hb : Below w1.heap.size w1 W2 := by rw [hW2]; exact below_alloc w1 _
  have c0 : W2.cell? ⟨lb, 0, none⟩ = some (.slice a1 2 2) := by rw [hW2, ← hlb]; simp [go_sem]
  have c1 : W2.cell? ⟨lb, 1, none⟩ = some (.slice a2 2 2) := by rw [hW2, ← hlb]; simp [go_sem]
  have c2 : W2.cell? ⟨lb, 2, none⟩ = some (.slice a3 2 2) := by rw [hW2, ← hlb]; simp [go_sem]
  go_wp2_with fail
  rw [← hW2]
  try rw [hlb]
  clear hW2 hlb
  replace HB := hid (below_then HB.out hb)
  replace hstd := hstd.grown hb
  replace hL := hL.grown hb
  replace hS := hS.grown hb
  clear hb
  refine (asked_any W2).mono ?_
  rintro e w3 ⟨wa, qa, rfl, hR, hQ, hb⟩
  replace HB := hid (below_then HB.out hb)
  replace hstd := hstd.grown hb
  replace hL := hL.grown hb
  replace hS := hS.grown hb
  replace c0 := cell_grown hb c0
  replace c1 := cell_grown hb c1
  replace c2 := cell_grown hb c2
  clear hb
  obtain ⟨rb, hrb⟩ : ∃ b, w3.heap.size = b := ⟨_, rfl⟩
  obtain ⟨W4, hW4⟩ : ∃ W, W = w3.alloc (.cells #[.slice wa 4 4, .int .i64 100, .int .i64 60] 62) := ⟨_, rfl⟩
  have hb : Below w3.heap.size w3 W4 := by rw [hW4]; exact below_alloc w3 _
  have r0 : W4.cell? ⟨rb, 0, none⟩ = some (.slice wa 4 4) := by rw [hW4, ← hrb]; simp [go_sem]
  have r1 : W4.cell? ⟨rb, 1, none⟩ = some (.int .i64 100) := by rw [hW4, ← hrb]; simp [go_sem]
  have r2 : W4.cell? ⟨rb, 2, none⟩ = some (.int .i64 60) := by rw [hW4, ← hrb]; simp [go_sem]
  replace HB := hid (below_then HB.out hb)
  replace hstd := hstd.grown hb
  replace hL := hL.grown hb
  replace hS := hS.grown hb
  replace hR := hR.grown hb
  replace hQ := hQ.grown hb
  replace c0 := cell_grown hb c0
  replace c1 := cell_grown hb c1
  replace c2 := cell_grown hb c2
  clear hb
  go_upto_region 3 with fail
  rw [← hW4]
  try rw [hrb]
  clear hW4 hrb
  go_wp2_with fail
  obtain ⟨W5, hW5⟩ : ∃ W, W = ((W4.alloc (.cells #[.string tNot, .string tTen] 9)).alloc (.cells #[.string tNever, .string t12] 9)) := ⟨_, rfl⟩
  have hb : Below W4.heap.size W4 W5 := by rw [hW5]; exact ((Below.refl _ W4).alloc (Nat.le_refl _) _).alloc (by simp) _
  have hA : Strs W5 (some ⟨W4.heap.size, 0, none⟩) [tNot, tTen] := by rw [hW5]; exact strs_two (by simp [go_sem]) (by simp [go_sem])
  have hC : Strs W5 (some ⟨W4.heap.size + 1, 0, none⟩) [tNever, t12] := by rw [hW5]; exact strs_two (by simp [go_sem]) (by simp [go_sem])
  unfold tNot tTen tNever t12 at hW5
  rw [← hW5]
  clear hW5
  replace HB := hid (below_then HB.out hb)
  replace c0 := cell_grown hb c0
  replace c1 := cell_grown hb c1
  replace c2 := cell_grown hb c2
  replace r0 := cell_grown hb r0
  replace r1 := cell_grown hb r1
  replace r2 := cell_grown hb r2
  replace hL := hL.grown hb
  replace hS := hS.grown hb
  replace hR := hR.grown hb
  replace hQ := hQ.grown hb
  replace hstd := hstd.grown hb
  clear hb
  refine (troubleF_any lex0 a1 a2 a3 2 2 2 2 2 2 [] none 0 0 [tNot, tTen] [tNever, t12] 2 2 2 2 _ _ W5 rfl rfl rfl hL rfl (by unfold maxLen; decide) (fun i hi => by cases hi) rfl (by unfold maxLen; decide) hA rfl (by unfold maxLen; decide) hC hstd).mono ?_
  rintro e w6 ⟨rfl, hb⟩
  rw [namesA.1, namesA_e.1]
  replace HB := hid (below_then HB.out hb)
  replace c0 := cell_grown hb c0
  replace c1 := cell_grown hb c1
  replace c2 := cell_grown hb c2
  replace r0 := cell_grown hb r0
  replace r1 := cell_grown hb r1
  replace r2 := cell_grown hb r2
  replace hL := hL.grown hb
  replace hS := hS.grown hb
  replace hR := hR.grown hb
  replace hQ := hQ.grown hb
  replace hstd := hstd.grown hb
  clear hb
  clear hA hC
  go_wp2_with fail
  obtain ⟨W7, hW7⟩ : ∃ W, W = ((w6.alloc (.cells #[.string tSmith, .string tTen] 9)).alloc (.cells #[.string tTen, .string tJones, .string tSmith] 9)) := ⟨_, rfl⟩
  have hb : Below w6.heap.size w6 W7 := by rw [hW7]; exact ((Below.refl _ w6).alloc (Nat.le_refl _) _).alloc (by simp) _
  have hA : Strs W7 (some ⟨w6.heap.size, 0, none⟩) [tSmith, tTen] := by rw [hW7]; exact strs_two (by simp [go_sem]) (by simp [go_sem])
  have hC : Strs W7 (some ⟨w6.heap.size + 1, 0, none⟩) [tTen, tJones, tSmith] := by
    intro i hi
    rw [hW7]
    rcases (by simp at hi; omega : i = 0 ∨ i = 1 ∨ i = 2) with rfl | rfl | rfl <;> exact ⟨_, 0, rfl, by simp [go_sem]⟩
  unfold tSmith tTen tJones at hW7
  rw [← hW7]
  clear hW7
  replace HB := hid (below_then HB.out hb)
  replace c0 := cell_grown hb c0
  replace c1 := cell_grown hb c1
  replace c2 := cell_grown hb c2
  replace r0 := cell_grown hb r0
  replace r1 := cell_grown hb r1
  replace r2 := cell_grown hb r2
  replace hL := hL.grown hb
  replace hS := hS.grown hb
  replace hR := hR.grown hb
  replace hQ := hQ.grown hb
  replace hstd := hstd.grown hb
  clear hb
  refine (troubleF_any lex0 a1 a2 a3 2 2 2 2 2 2 [] none 0 0 [tSmith, tTen] [tTen, tJones, tSmith] 2 3 2 3 _ _ W7 rfl rfl rfl hL rfl (by unfold maxLen; decide) (fun i hi => by cases hi) rfl (by unfold maxLen; decide) hA rfl (by unfold maxLen; decide) hC hstd).mono ?_
  rintro e w8 ⟨rfl, hb⟩
  rw [namesA.2, namesA_e.2]
  replace HB := hid (below_then HB.out hb)
  replace c0 := cell_grown hb c0
  replace c1 := cell_grown hb c1
  replace c2 := cell_grown hb c2
  replace r0 := cell_grown hb r0
  replace r1 := cell_grown hb r1
  replace r2 := cell_grown hb r2
  replace hL := hL.grown hb
  replace hS := hS.grown hb
  replace hR := hR.grown hb
  replace hQ := hQ.grown hb
  replace hstd := hstd.grown hb
  clear hb
  clear hA hC
  go_wp2_with fail
  refine (versionsF_any lex0 a1 a2 a3 2 2 2 2 2 2 swaps0 sa 1 1 rep0 wa 4 4 100 60 reqs0 qa 5 5 w8 rfl rfl rfl hL rfl (by unfold maxLen; decide) hS rfl (by unfold maxLen; decide) (Nat.le_refl _) hR rfl hQ (fun q hq => by simp only [reqs0, List.mem_cons, List.not_mem_nil, or_false] at hq; rcases hq with rfl | rfl | rfl | rfl | rfl <;> exact ⟨by decide, by decide⟩) hstd).mono ?_
  rintro e w9 ⟨hb, he⟩
  rw [if_pos hear0] at he
  obtain ⟨sg, sgn, sgc, Q, rfl, hPO, hSL, hSG⟩ := he
  rw [place_segs hPO, show rep0.length + 1 = 5 from rfl, show reqs0.length = 5 from rfl, names_segs] at hSG hSL
  have hn4 : sgn = 4 := by rw [← hSL]; rfl
  subst hn4
  replace HB := hid (below_then HB.out hb)
  replace c0 := cell_grown hb c0
  replace c1 := cell_grown hb c1
  replace c2 := cell_grown hb c2
  replace r0 := cell_grown hb r0
  replace r1 := cell_grown hb r1
  replace r2 := cell_grown hb r2
  replace hL := hL.grown hb
  replace hS := hS.grown hb
  replace hR := hR.grown hb
  replace hQ := hQ.grown hb
  replace hstd := hstd.grown hb
  clear hb
  clear hPO hSL
  go_upto_region 7 with fail
  obtain ⟨W10, hW10⟩ : ∃ W, W = segsW w9 := ⟨_, rfl⟩
  have hb : Below w9.heap.size w9 W10 := by rw [hW10]; exact segsW_below w9
  have hSW : SegsAt W10 (some ⟨w9.heap.size + 1 + 1 + 1 + 1 + 1 + 1 + 1 + 1, 0, none⟩) want4 := by rw [hW10]; exact segsW_at w9
  unfold segsW tSmith tPaid tHas tTen t12 tYes at hW10
  rw [← hW10]
  clear hW10
  replace HB := hid (below_then HB.out hb)
  replace c0 := cell_grown hb c0
  replace c1 := cell_grown hb c1
  replace c2 := cell_grown hb c2
  replace r0 := cell_grown hb r0
  replace r1 := cell_grown hb r1
  replace r2 := cell_grown hb r2
  replace hL := hL.grown hb
  replace hS := hS.grown hb
  replace hR := hR.grown hb
  replace hQ := hQ.grown hb
  replace hstd := hstd.grown hb
  replace hSG := hSG.grown hb
  clear hb
  go_wp2_with fail
  refine (segsSame_any want4 4 sgc 4 sg _ _ rfl (by omega) (fun g hg => by simp only [want4, List.mem_cons, List.not_mem_nil, or_false] at hg; rcases hg with rfl | rfl | rfl | rfl <;> exact ⟨by decide, by decide⟩) hSG hSW).mono ?_
  rintro e w11 ⟨rfl, hb⟩
  replace HB := hid (below_then HB.out hb)
  replace c0 := cell_grown hb c0
  replace c1 := cell_grown hb c1
  replace c2 := cell_grown hb c2
  replace r0 := cell_grown hb r0
  replace r1 := cell_grown hb r1
  replace r2 := cell_grown hb r2
  replace hL := hL.grown hb
  replace hS := hS.grown hb
  replace hR := hR.grown hb
  replace hQ := hQ.grown hb
  replace hstd := hstd.grown hb
  clear hb
  clear hSG hSW
  go_upto_region 10 with fail
  obtain ⟨W12, hW12⟩ : ∃ W, W = meetW w11 := ⟨_, rfl⟩
  have hb : Below w11.heap.size w11 W12 := by rw [hW12]; exact meetW_below w11
  have hM : ReqsAt W12 (some ⟨w11.heap.size + 1 + 1 + 1 + 1 + 1, 0, none⟩) meet8 := by rw [hW12]; exact meetW_at w11
  unfold meetW tOnce9 tTwice9 tPays9 tSmyth tPaid tA9 at hW12
  rw [← hW12]
  clear hW12
  replace HB := hid (below_then HB.out hb)
  replace c0 := cell_grown hb c0
  replace c1 := cell_grown hb c1
  replace c2 := cell_grown hb c2
  replace r0 := cell_grown hb r0
  replace r1 := cell_grown hb r1
  replace r2 := cell_grown hb r2
  replace hL := hL.grown hb
  replace hS := hS.grown hb
  replace hR := hR.grown hb
  replace hQ := hQ.grown hb
  replace hstd := hstd.grown hb
  clear hb
  go_wp2_with fail
  refine (decideF_any lex0 a1 a2 a3 2 2 2 2 2 2 swaps0 sa 1 1 rep0 wa 4 4 100 60 meet8 _ 8 8 W12 rfl rfl rfl hL rfl (by unfold maxLen; decide) hS rfl (by unfold maxLen; decide) (Nat.le_refl _) hR rfl hM (fun q hq => by simp only [meet8, List.mem_cons, List.not_mem_nil, or_false] at hq; rcases hq with rfl | rfl | rfl | rfl | rfl | rfl | rfl | rfl <;> exact ⟨by decide, by decide⟩) hstd).mono ?_
  rintro e w13 ⟨Wm, hbm, hb9, he⟩
  rw [if_pos names_hear] at he
  obtain ⟨ab, T, rfl, hT, hrow⟩ := he
  rw [(run_order hT).1] at hrow
  have hI := IntsAt.of_row hrow
  have hb := below_then hbm hb9
  replace HB := hid (below_then HB.out hb)
  replace c0 := cell_grown hb c0
  replace c1 := cell_grown hb c1
  replace c2 := cell_grown hb c2
  replace r0 := cell_grown hb r0
  replace r1 := cell_grown hb r1
  replace r2 := cell_grown hb r2
  replace hL := hL.grown hb
  replace hS := hS.grown hb
  replace hR := hR.grown hb
  replace hQ := hQ.grown hb
  replace hstd := hstd.grown hb
  clear hb
  clear hrow hT hM hbm hb9
  have mk1 := make81
  have mk2 := make21s
  have mk3 := make21r
  go_wp2_with fail
  have hbd : Below w13.heap.size w13 w13.drew := (Below.refl _ _).drew
  have hba : Below w13.heap.size w13 (w13.alloc (.cells (madeCells #[.string .empty] 81) 9)).drew := ((Below.refl _ w13).alloc (Nat.le_refl _) _).drew
  go_region_held3 (fun w' : World => w'.cell? ⟨lb, 0, none⟩ = some (.slice a1 2 2) ∧ w'.cell? ⟨lb, 1, none⟩ = some (.slice a2 2 2) ∧ w'.cell? ⟨lb, 2, none⟩ = some (.slice a3 2 2)) (first | with_reducible exact ⟨c0, c1, c2⟩ | with_reducible exact ⟨cell_grown hbd c0, cell_grown hbd c1, cell_grown hbd c2⟩ | exact ⟨cell_grown hba c0, cell_grown hba c1, cell_grown hba c2⟩) (first | (go_at_call 20; replace HB := hid (below_then HB.out hba); replace c0 := cell_grown hba c0; replace c1 := cell_grown hba c1; replace c2 := cell_grown hba c2; replace r0 := cell_grown hba r0; replace r1 := cell_grown hba r1; replace r2 := cell_grown hba r2; replace hL := hL.grown hba; replace hS := hS.grown hba; replace hR := hR.grown hba; replace hQ := hQ.grown hba; replace hstd := hstd.grown hba; replace hI := hI.grown hba; refine (senseF_any lex0 a1 a2 a3 2 2 2 2 2 2 (List.replicate 81 .empty) 81 81 (some ⟨w13.heap.size, 0, none⟩) _ rfl rfl rfl hL (by simp) (by unfold maxLen; decide) (made_strs w13) hstd).mono ?_; rintro e w14 ⟨hb, he⟩; rw [names_long.1, if_neg (by decide)] at he; subst he; replace HB := hid (below_then HB.out hb); replace c0 := cell_grown hb c0; replace c1 := cell_grown hb c1; replace c2 := cell_grown hb c2; replace r0 := cell_grown hb r0; replace r1 := cell_grown hb r1; replace r2 := cell_grown hb r2; replace hL := hL.grown hb; replace hS := hS.grown hb; replace hR := hR.grown hb; replace hQ := hQ.grown hb; replace hstd := hstd.grown hb; replace hI := hI.grown hb))
  clear hbd hba hb
  all_goals
    go_wp2_with fail
    obtain ⟨W15, hW15⟩ : ∃ W, W = w14.alloc (.cells #[.string ⟨#[]⟩] 9) := ⟨_, rfl⟩
    have hb : Below w14.heap.size w14 W15 := by rw [hW15]; exact below_alloc w14 _
    have hA : Strs W15 (some ⟨w14.heap.size, 0, none⟩) [.empty] := by rw [hW15]; exact strs_one (x := ⟨#[]⟩) (by simp [go_sem])
    rw [← hW15]
    clear hW15
    replace HB := hid (below_then HB.out hb)
    replace c0 := cell_grown hb c0
    replace c1 := cell_grown hb c1
    replace c2 := cell_grown hb c2
    replace r0 := cell_grown hb r0
    replace r1 := cell_grown hb r1
    replace r2 := cell_grown hb r2
    replace hL := hL.grown hb
    replace hS := hS.grown hb
    replace hR := hR.grown hb
    replace hQ := hQ.grown hb
    replace hstd := hstd.grown hb
    replace hI := hI.grown hb
    clear hb
    refine (senseF_any lex0 a1 a2 a3 2 2 2 2 2 2 [.empty] 1 1 _ W15 rfl rfl rfl hL rfl (by unfold maxLen; decide) hA hstd).mono ?_
    rintro e w16 ⟨hb, he⟩
    rw [names_long.2.1, if_neg (by decide)] at he
    subst he
    replace HB := hid (below_then HB.out hb)
    replace c0 := cell_grown hb c0
    replace c1 := cell_grown hb c1
    replace c2 := cell_grown hb c2
    replace r0 := cell_grown hb r0
    replace r1 := cell_grown hb r1
    replace r2 := cell_grown hb r2
    replace hL := hL.grown hb
    replace hS := hS.grown hb
    replace hR := hR.grown hb
    replace hQ := hQ.grown hb
    replace hstd := hstd.grown hb
    replace hI := hI.grown hb
    clear hb
    clear hA
    go_wp2_with fail
    obtain ⟨W17, hW17⟩ : ∃ W, W = w16.alloc (.cells #[.int .u8 3, .int .i64 0, .int .i64 0] 89) := ⟨_, rfl⟩
    have hb : Below w16.heap.size w16 W17 := by rw [hW17]; exact below_alloc w16 _
    have hA : SwapsAt W17 (some ⟨w16.heap.size, 0, none⟩) [(3, 0, 0)] := by
      intro i hi
      have hi0 : i = 0 := by simpa using hi
      subst hi0
      exact ⟨_, 0, rfl, by rw [hW17]; simp [go_sem], by rw [hW17]; simp [go_sem], by rw [hW17]; simp [go_sem]⟩
    rw [← hW17]
    clear hW17
    replace HB := hid (below_then HB.out hb)
    replace c0 := cell_grown hb c0
    replace c1 := cell_grown hb c1
    replace c2 := cell_grown hb c2
    replace r0 := cell_grown hb r0
    replace r1 := cell_grown hb r1
    replace r2 := cell_grown hb r2
    replace hL := hL.grown hb
    replace hS := hS.grown hb
    replace hR := hR.grown hb
    replace hQ := hQ.grown hb
    replace hstd := hstd.grown hb
    replace hI := hI.grown hb
    clear hb
    refine (troubleF_any lex0 a1 a2 a3 2 2 2 2 2 2 [(3, 0, 0)] _ 1 1 [] [] 0 0 0 0 none none W17 rfl rfl rfl hL rfl (by unfold maxLen; decide) hA rfl (by unfold maxLen; decide) (strs_none _) rfl (by unfold maxLen; decide) (strs_none _) hstd).mono ?_
    rintro e w18 ⟨rfl, hb⟩
    rw [names_long.2.2.1]
    replace HB := hid (below_then HB.out hb)
    replace c0 := cell_grown hb c0
    replace c1 := cell_grown hb c1
    replace c2 := cell_grown hb c2
    replace r0 := cell_grown hb r0
    replace r1 := cell_grown hb r1
    replace r2 := cell_grown hb r2
    replace hL := hL.grown hb
    replace hS := hS.grown hb
    replace hR := hR.grown hb
    replace hQ := hQ.grown hb
    replace hstd := hstd.grown hb
    replace hI := hI.grown hb
    clear hb
    clear hA
    obtain ⟨tr1, htr1⟩ : ∃ z, troubleF lex0 [(3, 0, 0)] [] [] = z := ⟨_, rfl⟩
    rw [htr1]
    clear htr1
    go_wp2_with fail
    have hbd : Below w18.heap.size w18 w18.drew := (Below.refl _ _).drew
    have hba : Below w18.heap.size w18 (w18.alloc (.cells (madeCells #[.int .u8 0, .int .i64 0, .int .i64 0] 63) 89)).drew := ((Below.refl _ w18).alloc (Nat.le_refl _) _).drew
    go_region_held3 (fun w' : World => w'.cell? ⟨lb, 0, none⟩ = some (.slice a1 2 2) ∧ w'.cell? ⟨lb, 1, none⟩ = some (.slice a2 2 2) ∧ w'.cell? ⟨lb, 2, none⟩ = some (.slice a3 2 2) ∧ w'.cell? ⟨rb, 0, none⟩ = some (.slice wa 4 4) ∧ w'.cell? ⟨rb, 1, none⟩ = some (.int .i64 100) ∧ w'.cell? ⟨rb, 2, none⟩ = some (.int .i64 60)) (first | with_reducible exact ⟨c0, c1, c2, r0, r1, r2⟩ | with_reducible exact ⟨cell_grown hbd c0, cell_grown hbd c1, cell_grown hbd c2, cell_grown hbd r0, cell_grown hbd r1, cell_grown hbd r2⟩ | exact ⟨cell_grown hba c0, cell_grown hba c1, cell_grown hba c2, cell_grown hba r0, cell_grown hba r1, cell_grown hba r2⟩) (first | (go_at_call 33; replace HB := hid (below_then HB.out hba); replace c0 := cell_grown hba c0; replace c1 := cell_grown hba c1; replace c2 := cell_grown hba c2; replace r0 := cell_grown hba r0; replace r1 := cell_grown hba r1; replace r2 := cell_grown hba r2; replace hL := hL.grown hba; replace hS := hS.grown hba; replace hR := hR.grown hba; replace hQ := hQ.grown hba; replace hstd := hstd.grown hba; replace hI := hI.grown hba; refine (decideF_any lex0 a1 a2 a3 2 2 2 2 2 2 (List.replicate 21 (0, 0, 0)) (some ⟨w18.heap.size, 0, none⟩) 21 21 rep0 wa 4 4 100 60 [] none 0 0 _ rfl rfl rfl hL (by simp) (by unfold maxLen; decide) (made_swaps w18) rfl (by unfold maxLen; decide) (Nat.le_refl _) hR rfl (fun i hi => by cases hi) (fun q hq => by cases hq) hstd).mono ?_; rintro e w20 ⟨Wd, hbW, hbd2, he⟩; rw [names_long.2.2.2.1, if_neg (by decide)] at he; subst he; have hb := hbW.trans (hbd2.mono hbW.size); replace HB := hid (below_then HB.out hb); replace c0 := cell_grown hb c0; replace c1 := cell_grown hb c1; replace c2 := cell_grown hb c2; replace r0 := cell_grown hb r0; replace r1 := cell_grown hb r1; replace r2 := cell_grown hb r2; replace hL := hL.grown hb; replace hS := hS.grown hb; replace hR := hR.grown hb; replace hQ := hQ.grown hb; replace hstd := hstd.grown hb; replace hI := hI.grown hb))
    clear hbd hba hb hbW hbd2
    all_goals
      go_wp2_with fail
      have hbd : Below w20.heap.size w20 w20.drew := (Below.refl _ _).drew
      have hba : Below w20.heap.size w20 (w20.alloc (.cells (madeCells #[.int .i64 0, .int .i64 0, .int .i64 0, .int .i64 0, .slice none 0 0] 105) 87)).drew := ((Below.refl _ w20).alloc (Nat.le_refl _) _).drew
      go_region_held3 (fun w' : World => w'.cell? ⟨lb, 0, none⟩ = some (.slice a1 2 2) ∧ w'.cell? ⟨lb, 1, none⟩ = some (.slice a2 2 2) ∧ w'.cell? ⟨lb, 2, none⟩ = some (.slice a3 2 2) ∧ w'.cell? ⟨rb, 0, none⟩ = some (.slice wa 4 4) ∧ w'.cell? ⟨rb, 1, none⟩ = some (.int .i64 100) ∧ w'.cell? ⟨rb, 2, none⟩ = some (.int .i64 60)) (first | with_reducible exact ⟨c0, c1, c2, r0, r1, r2⟩ | with_reducible exact ⟨cell_grown hbd c0, cell_grown hbd c1, cell_grown hbd c2, cell_grown hbd r0, cell_grown hbd r1, cell_grown hbd r2⟩ | exact ⟨cell_grown hba c0, cell_grown hba c1, cell_grown hba c2, cell_grown hba r0, cell_grown hba r1, cell_grown hba r2⟩) (first | (go_at_call 33; replace HB := hid (below_then HB.out hba); replace c0 := cell_grown hba c0; replace c1 := cell_grown hba c1; replace c2 := cell_grown hba c2; replace r0 := cell_grown hba r0; replace r1 := cell_grown hba r1; replace r2 := cell_grown hba r2; replace hL := hL.grown hba; replace hS := hS.grown hba; replace hR := hR.grown hba; replace hQ := hQ.grown hba; replace hstd := hstd.grown hba; replace hI := hI.grown hba; refine (decideF_any lex0 a1 a2 a3 2 2 2 2 2 2 [] none 0 0 rep0 wa 4 4 100 60 (List.replicate 21 default) (some ⟨w20.heap.size, 0, none⟩) 21 21 _ rfl rfl rfl hL rfl (by unfold maxLen; decide) (fun i hi => by cases hi) rfl (by unfold maxLen; decide) (Nat.le_refl _) hR (by simp) (made_reqs w20) (fun q hq => by rw [List.eq_of_mem_replicate hq]; exact ⟨by decide, by decide⟩) hstd).mono ?_; rintro e w22 ⟨Wd, hbW, hbd2, he⟩; rw [names_long.2.2.2.2, if_neg (by decide)] at he; subst he; have hb := hbW.trans (hbd2.mono hbW.size); replace HB := hid (below_then HB.out hb); replace c0 := cell_grown hb c0; replace c1 := cell_grown hb c1; replace c2 := cell_grown hb c2; replace r0 := cell_grown hb r0; replace r1 := cell_grown hb r1; replace r2 := cell_grown hb r2; replace hL := hL.grown hb; replace hS := hS.grown hb; replace hR := hR.grown hb; replace hQ := hQ.grown hb; replace hstd := hstd.grown hb; replace hI := hI.grown hb))
      clear hbd hba hb hbW hbd2
      all_goals
        go_wp2_with fail
        obtain ⟨W24, hW24⟩ : ∃ W, W = ((((w22.alloc (.cells #[.string tA9] 9)).alloc (.cells #[.string tB9, .string tA9] 9)).alloc (.cells #[.slice (some ⟨w22.heap.size, 0, none⟩) 1 1, .slice (some ⟨w22.heap.size + 1, 0, none⟩) 2 2] 24)).alloc (.cells #[.slice none 0 0, .slice (some ⟨w22.heap.size + 1 + 1, 0, none⟩) 2 2, .slice none 0 0] 34)).alloc (.cells #[.int .i64 0, .int .i64 6, .int .i64 0, .int .i64 11, .int .i64 6, .int .i64 2, .int .i64 5, .int .i64 1] 30) := ⟨_, rfl⟩
        have hb : Below w22.heap.size w22 W24 := by rw [hW24]; exact (((((Below.refl _ w22).alloc (Nat.le_refl _) _).alloc (by simp) _).alloc (by simp; omega) _).alloc (by simp; omega) _).alloc (by simp; omega) _
        have u0 : W24.cell? ⟨w22.heap.size + 1 + 1 + 1, 0, none⟩ = some (.slice none 0 0) := by rw [hW24]; simp [go_sem]
        have u1 : W24.cell? ⟨w22.heap.size + 1 + 1 + 1, 1, none⟩ = some (.slice (some ⟨w22.heap.size + 1 + 1, 0, none⟩) 2 2) := by rw [hW24]; simp [go_sem]
        have u2 : W24.cell? ⟨w22.heap.size + 1 + 1 + 1, 2, none⟩ = some (.slice none 0 0) := by rw [hW24]; simp [go_sem]
        have hLt : LexAt W24 none (some ⟨w22.heap.size + 1 + 1, 0, none⟩) none ⟨[], [[tA9], [tB9, tA9]], []⟩ := by
          have e0 : W24.cell? ⟨w22.heap.size + 1 + 1, 0, none⟩ = some (.slice (some ⟨w22.heap.size, 0, none⟩) 1 1) := by rw [hW24]; simp [go_sem]
          have e1 : W24.cell? ⟨w22.heap.size + 1 + 1, 1, none⟩ = some (.slice (some ⟨w22.heap.size + 1, 0, none⟩) 2 2) := by rw [hW24]; simp [go_sem]
          have d0 : W24.cell? ⟨w22.heap.size, 0, none⟩ = some (.string tA9) := by rw [hW24]; simp [go_sem]
          have d1 : W24.cell? ⟨w22.heap.size + 1, 0, none⟩ = some (.string tB9) := by rw [hW24]; simp [go_sem]
          have d2 : W24.cell? ⟨w22.heap.size + 1, 1, none⟩ = some (.string tA9) := by rw [hW24]; simp [go_sem]
          refine ⟨(fun i hi => by cases hi), fun i hi => ?_, strs_none _, by decide, by decide, by decide⟩
          rcases (by simp at hi; omega : i = 0 ∨ i = 1) with rfl | rfl
          · exact ⟨_, 0, _, _, rfl, e0, by decide, strs_one d0⟩
          · exact ⟨_, 0, _, _, rfl, e1, by decide, strs_two d1 d2⟩
        have hD : IntsAt W24 (some ⟨w22.heap.size + 1 + 1 + 1 + 1, 0, none⟩) 8 (decideM lex0 swaps0 rep0 100 60 meet8) := by
          obtain ⟨q0, q1, q2, q3, q4, q5, q6, q7⟩ := names_dec8
          intro i hi
          rw [hW24]
          rcases (by omega : i = 0 ∨ i = 1 ∨ i = 2 ∨ i = 3 ∨ i = 4 ∨ i = 5 ∨ i = 6 ∨ i = 7) with rfl | rfl | rfl | rfl | rfl | rfl | rfl | rfl
          · exact ⟨_, 0, rfl, by rw [q0]; simp [go_sem]⟩
          · exact ⟨_, 0, rfl, by rw [q1]; simp [go_sem]⟩
          · exact ⟨_, 0, rfl, by rw [q2]; simp [go_sem]⟩
          · exact ⟨_, 0, rfl, by rw [q3]; simp [go_sem]⟩
          · exact ⟨_, 0, rfl, by rw [q4]; simp [go_sem]⟩
          · exact ⟨_, 0, rfl, by rw [q5]; simp [go_sem]⟩
          · exact ⟨_, 0, rfl, by rw [q6]; simp [go_sem]⟩
          · exact ⟨_, 0, rfl, by rw [q7]; simp [go_sem]⟩
        unfold tA9 tB9 at hW24
        rw [← hW24]
        clear hW24
        replace HB := hid (below_then HB.out hb)
        replace hstd := hstd.grown hb
        replace hI := hI.grown hb
        clear hb c0 c1 c2 r0 r1 r2 hL hS hR hQ
        obtain ⟨ub, hub⟩ : ∃ b, w22.heap.size + 1 + 1 + 1 = b := ⟨_, rfl⟩
        rw [hub] at u0 u1 u2
        refine (errors_any (decideM lex0 swaps0 rep0 100 60 meet8) (decideM lex0 swaps0 rep0 100 60 meet8) 8 8 8 8 _ _ W24 (by omega) hI hD).mono ?_
        rintro e w25 ⟨rfl, hb⟩
        rw [(by rw [(allN_of 8 _).2 (fun i _ => by simp)]; rfl : (decide ((8 : Nat) = 8) && allN 8 fun i => decide (decideM lex0 swaps0 rep0 100 60 meet8 i = decideM lex0 swaps0 rep0 100 60 meet8 i)) = true)]
        replace HB := hid (below_then HB.out hb)
        replace hstd := hstd.grown hb
        replace hLt := hLt.grown hb
        replace u0 := cell_grown hb u0
        replace u1 := cell_grown hb u1
        replace u2 := cell_grown hb u2
        clear hb hI hD
        try rw [hub]
        go_wp2_with fail
        refine (checkLexicon_any ⟨[], [[tA9], [tB9, tA9]], []⟩ none (some ⟨w22.heap.size + 1 + 1, 0, none⟩) none 0 2 0 0 2 0 w25 rfl rfl rfl hLt).mono ?_
        rintro e w26 ⟨rfl, hb⟩
        rw [names_lex.1]
        replace HB := hid (below_then HB.out hb)
        replace hstd := hstd.grown hb
        clear hb hLt u0 u1 u2
        go_wp2_with fail
        obtain ⟨W27, hW27⟩ : ∃ W, W = (w26.alloc (.cells #[] 9)).alloc (.cells #[.slice (some ⟨w26.heap.size, 0, none⟩) 0 0] 24) := ⟨_, rfl⟩
        have hb : Below w26.heap.size w26 W27 := by rw [hW27]; exact ((Below.refl _ w26).alloc (Nat.le_refl _) _).alloc (by simp) _
        have hLe : LexAt W27 none (some ⟨w26.heap.size + 1, 0, none⟩) none ⟨[], [[]], []⟩ := by
          have e0 : W27.cell? ⟨w26.heap.size + 1, 0, none⟩ = some (.slice (some ⟨w26.heap.size, 0, none⟩) 0 0) := by rw [hW27]; simp [go_sem]
          refine ⟨(fun i hi => by cases hi), fun i hi => ?_, strs_none _, by decide, by decide, by decide⟩
          have hi0 : i = 0 := by simpa using hi
          subst hi0
          exact ⟨_, 0, _, _, rfl, e0, by decide, fun i hi => by cases hi⟩
        rw [← hW27]
        clear hW27
        replace HB := hid (below_then HB.out hb)
        replace hstd := hstd.grown hb
        clear hb
        refine (checkLexicon_any ⟨[], [[]], []⟩ none (some ⟨w26.heap.size + 1, 0, none⟩) none 0 1 0 0 1 0 W27 rfl rfl rfl hLe).mono ?_
        rintro e w28 ⟨rfl, hb⟩
        rw [names_lex.2.1]
        replace HB := hid (below_then HB.out hb)
        replace hstd := hstd.grown hb
        clear hb hLe
        go_wp2_with fail
        refine (checkReport_any [] (-1) 0 0 0 none w28 rfl (by unfold maxLen; decide) (fun i hi => by cases hi)).mono ?_
        rintro e w29 ⟨rfl, hb⟩
        rw [names_lex.2.2]
        replace HB := hid (below_then HB.out hb)
        replace hstd := hstd.grown hb
        clear hb
        go_wp2_with fail
        refine (awake_any _ hstd).mono ?_
        rintro e w30 ⟨rfl, hb⟩
        go_wp2
        go_ret
        exact ⟨rfl, below_then HB.out hb⟩

end Go.Proofs.YtbampfkmgjfofaaGreatDoor
