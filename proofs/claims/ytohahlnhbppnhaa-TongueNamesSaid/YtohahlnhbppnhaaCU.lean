/- Tongue: the numbers of the document's examples; what the examples answer, and what the refused inputs do. -/
import Derived.Test.YtohahlnhbppnhaaCQ
import Derived.Test.YtohahlnhbppnhaaCL
import Derived.Test.YtohahlnhbppnhaaAC
import Derived.Test.YtohahlnhbppnhaaBN
import Derived.Test.YtohahlnhbppnhaaAU
import Derived.Test.YtohahlnhbppnhaaAA
namespace Go.Proofs.Ytohahlnhbppnhaa
open Go.RowKit

def exM : List (Nat × Nat × Nat × Nat) := (matchM 3 3 (onesN 3)).getD []
theorem ex_match : matchM 3 3 (onesN 3) = some exM := by decide +kernel
theorem ex_difs : difsM exL exR exM 3 = [0, 1] := by decide +kernel
theorem ex_counts : countM [true, false, true] exM 3 = [(0, 0), (1, 1), (0, 2)] := by decide +kernel
theorem ex_level : beginsM exL exR exM 3 = [0, 10, 19] ∧ linesM exL exR exM 3 = 27 ∧ blankM exL exR exM 3 = 9 := by decide +kernel
theorem ex_four : restM exL exR 0 0 = 4 := by decide +kernel
theorem ex_none : matchM 3 3 [(2, 2), (1, 1)] = none := by decide +kernel
theorem ex_five : proveM exL exR (gridL 4 4 (halfM exL exR)) 5 = false := by
  cases h : proveM exL exR (gridL 4 4 (halfM exL exR)) 5
  · rfl
  · have := proved_le h
    rw [ex_four] at this
    omega

end Go.Proofs.Ytohahlnhbppnhaa

namespace Go.Proofs.Ytohahlnhbppnhaa
open Go.RowKit
set_option linter.unusedSimpArgs false
set_option linter.unusedVariables false

theorem ex_sL : Small exL := ⟨by decide, by decide⟩
theorem ex_sR : Small exR := ⟨by decide, by decide⟩
theorem ex_len : exM.length = 3 := by decide +kernel

section
variable {a b : Option Addr} {W : World} (hA : TextAt W a exL) (hB : TextAt W b exR)
include hA hB

theorem names_diffs {s : Option Addr} {sc : Nat} (hP : PairsAt W s (onesN 3)) : Calls Try.prog 25 #[.slice a 3 3, .slice b 3 3, .slice s 3 sc] W fun e w' => ∃ d c, e = .returned (.tuple #[.slice d 2 c, .int .i64 0]) ∧ IntsAt w' d [0, 1] ∧ Below W.heap.size W w' :=
  (diffsOf_any exL exR 3 3 3 3 a b W rfl rfl ex_sL ex_sR hA hB (by omega) (by omega) (onesN 3) 3 sc s rfl (by omega) hP).mono fun e w' h => by
    obtain ⟨hb, ⟨h, -⟩ | ⟨-, h, -⟩ | ⟨-, ms, d, c, hm, rfl, hI⟩⟩ := h
    · exact (h ex_fault).elim
    · exact absurd (h.symm.trans ex_match) (by simp)
    · have e : ms = exM := Option.some.inj (hm.symm.trans ex_match)
      subst e
      rw [ex_len, ex_difs] at hI ⊢
      exact ⟨d, c, rfl, hI, hb⟩

theorem names_counts {s ld : Option Addr} {sc lc : Nat} (hP : PairsAt W s (onesN 3)) (hl : BoolsAt W ld [true, false, true]) : Calls Try.prog 36 #[.slice a 3 3, .slice b 3 3, .slice s 3 sc, .slice ld 3 lc] W fun e w' => ∃ d c, e = .returned (.tuple #[.slice d 3 c, .int .i64 0]) ∧ PiecesAt w' d [(0, 0), (1, 1), (0, 2)] ∧ Below W.heap.size W w' :=
  (countsOf_any exL exR 3 3 3 3 a b W rfl rfl ex_sL ex_sR hA hB (by omega) (by omega) (onesN 3) 3 sc s rfl (by omega) hP [true, false, true] 3 lc ld rfl (by omega) hl).mono fun e w' h => by
    obtain ⟨hb, ⟨h, -⟩ | ⟨-, h, -⟩ | ⟨-, -, h, -⟩ | ⟨-, -, ms, d, c, hm, rfl, hI, -⟩⟩ := h
    · exact (h ex_fault).elim
    · exact absurd (h.symm.trans ex_match) (by simp)
    · exact (h rfl).elim
    · have e : ms = exM := Option.some.inj (hm.symm.trans ex_match)
      subst e
      rw [ex_len, ex_counts] at hI ⊢
      exact ⟨d, c, rfl, hI, hb⟩

theorem names_level {s : Option Addr} {sc : Nat} (hP : PairsAt W s (onesN 3)) : Calls Try.prog 26 #[.slice a 3 3, .slice b 3 3, .slice s 3 sc] W fun e w' => ∃ d c, e = .returned (.tuple #[.slice d 3 c, .int .i64 27, .int .i64 9, .int .i64 0]) ∧ IntsAt w' d [0, 10, 19] ∧ Below W.heap.size W w' :=
  (levelOf_any exL exR 3 3 3 3 a b W rfl rfl ex_sL ex_sR hA hB (by omega) (by omega) (onesN 3) 3 sc s rfl (by omega) hP).mono fun e w' h => by
    obtain ⟨hb, ⟨h, -⟩ | ⟨-, h, -⟩ | ⟨-, ms, d, c, hm, rfl, hI⟩⟩ := h
    · exact (h ex_fault).elim
    · exact absurd (h.symm.trans ex_match) (by simp)
    · have e : ms = exM := Option.some.inj (hm.symm.trans ex_match)
      subst e
      obtain ⟨e1, e2, e3⟩ := ex_level
      rw [ex_len, e1] at hI
      rw [ex_len, e2, e3]
      exact ⟨d, c, rfl, hI, hb⟩

theorem names_proof : Calls Try.prog 31 #[.slice a 3 3, .slice b 3 3] W fun e w' => ∃ p c, e = .returned (.tuple #[.slice p 4 c, .int .i64 0]) ∧ GridAt w' p (gridL 4 4 (halfM exL exR)) ∧ Below W.heap.size W w' :=
  (proof_any exL exR 3 3 3 3 a b W rfl rfl ex_sL ex_sR hA hB (by omega) (by omega)).mono fun e w' h => by
    obtain ⟨hb, ⟨h, -⟩ | ⟨-, B, p, c, g, -, rfl, hg⟩⟩ := h
    · exact (h ex_fault).elim
    · exact ⟨p, c, rfl, hg.at, hb⟩

theorem names_prove (v : Bool) (cost : Int) (hv : proveM exL exR (gridL 4 4 (halfM exL exR)) cost = v) {p : Option Addr} {c : Nat} (hg : GridAt W p (gridL 4 4 (halfM exL exR))) : Calls Try.prog 32 #[.slice a 3 3, .slice b 3 3, .int .i64 cost, .slice p 4 c] W fun e w' => e = .returned (.bool v) ∧ Below W.heap.size W w' := by
  have h := proveCost_any exL exR (gridL 4 4 (halfM exL exR)) 3 3 3 3 4 c cost a b p W rfl rfl ex_sL ex_sR (by omega) (by omega) hA hB (gridL_length _ _ _) (by omega) (fun r hr => by
    unfold gridL at hr
    rw [List.mem_map] at hr
    obtain ⟨i, -, rfl⟩ := hr
    simp) hg
  rw [hv] at h
  exact h

theorem names_cost {s : Option Addr} {sc : Nat} (hP : PairsAt W s [(2, 2), (1, 1)]) : Calls Try.prog 23 #[.slice a 3 3, .slice b 3 3, .slice s 2 sc] W fun e w' => e = .returned (.tuple #[.int .i64 0, .int .i64 9]) ∧ Below W.heap.size W w' :=
  (costOf_any exL exR 3 3 3 3 a b W rfl rfl ex_sL ex_sR hA hB (by omega) (by omega) [(2, 2), (1, 1)] 2 sc s rfl (by omega) hP).mono fun e w' h => by
    obtain ⟨hb, ⟨h, -⟩ | ⟨-, -, rfl⟩ | ⟨-, ms, h, -⟩⟩ := h
    · exact (h ex_fault).elim
    · exact ⟨rfl, hb⟩
    · exact absurd (h.symm.trans ex_none) (by simp)

theorem names_nil {s : Option Addr} {sc : Nat} (hP : PairsAt W s (onesN 3)) : Calls Try.prog 36 #[.slice a 3 3, .slice b 3 3, .slice s 3 sc, .slice none 0 0] W fun e w' => e = .returned (.tuple #[.slice none 0 0, .int .i64 2]) ∧ Below W.heap.size W w' :=
  (countsOf_any exL exR 3 3 3 3 a b W rfl rfl ex_sL ex_sR hA hB (by omega) (by omega) (onesN 3) 3 sc s rfl (by omega) hP [] 0 0 none rfl (by omega) (fun i hi => by simp at hi)).mono fun e w' h => by
    obtain ⟨hb, ⟨h, -⟩ | ⟨-, h, -⟩ | ⟨-, -, -, rfl⟩ | ⟨-, h, -⟩⟩ := h
    · exact (h ex_fault).elim
    · exact absurd (h.symm.trans ex_match) (by simp)
    · exact ⟨rfl, hb⟩
    · cases h

end

theorem ex_proves : proveM exL exR (gridL 4 4 (halfM exL exR)) 4 = true := by
  have h := half_proves (L := exL) (R := exR) (by decide) (by decide) (by unfold MarksOk; decide) (by unfold MarksOk; decide) ex_fault
  rw [ex_four] at h
  exact h

end Go.Proofs.Ytohahlnhbppnhaa

namespace Go.Proofs.Ytohahlnhbppnhaa
open Go.RowKit
set_option linter.unusedSimpArgs false
set_option linter.unusedVariables false

theorem ex_many : faultM (List.replicate 21 ⟨[], 0⟩) [] = 3 := by decide +kernel
theorem ex_small : faultM [⟨[], 0⟩] [] = 1 := by decide +kernel
theorem ex_empty : valP ⟨[], 0, []⟩ = false := by decide +kernel
theorem ex_minus : inB (-1) 0 100000 = false := by decide +kernel

theorem run_make_k {P : Program} (t e : TypeId) (z : Value) (zc : Array Value) (k bytes : Nat) (ht : P.underlying t = some (.slice e)) (hinfo : (P.info? e).map (fun i => (i.zero, i.size, i.bytes)) = some (some z, k, bytes)) (hzc : z.cells = zc)
    (n : Nat) (hbytes : bytes * n ≤ 281474976710656) (h63 : n ≤ 9223372036854775807) (w : World) :
    (Instr.makeSlice t (.int .i64 (n : Int)) (.int .i64 (n : Int))).run P w = .ok (.slice (some ⟨w.heap.size, 0, none⟩) n n) (w.alloc (.cells (madeCells zc (n * k)) e)) := by
  obtain ⟨i, hi, hzz⟩ := Option.map_eq_some_iff.1 hinfo
  simp only [Prod.mk.injEq] at hzz
  obtain ⟨hz, hs, hb⟩ := hzz
  have hb' : (i.bytes : Int) * (n : Int) ≤ 281474976710656 := by
    have h : ((i.bytes * n : Nat) : Int) ≤ 281474976710656 := by rw [hb]; omega
    rwa [Int.natCast_mul] at h
  have hr := run_make (P := P) w t e i z ht hi hz .i64 .i64 n n (by omega) (Int.le_refl _) hb' (by omega)
  simp only [Int.toNat_natCast, hs, hzc] at hr
  exact hr

theorem made_cell (W : World) (zc : Array Value) (N j : Nat) (e : TypeId) (v : Value) (hj : j < N) (hv : zc[j % zc.size]? = some v) : (W.alloc (.cells (madeCells zc N) e)).cell? ⟨W.heap.size, j, none⟩ = some v := by
  have h := (World.rowIs_alloc W (madeCells zc N) e (fun i => (zc[i % zc.size]?).getD default) (fun i hi => by
    rw [size_madeCells] at hi
    have hz : 0 < zc.size := by
      rcases Nat.eq_zero_or_pos zc.size with h0 | h0
      · rw [Array.getElem?_eq_none (by omega)] at hv
        cases hv
      · exact h0
    have hl : i % zc.size < zc.size := Nat.mod_lt _ hz
    simp [madeCells, hi, hl])).cell (i := j) (by rw [size_madeCells]; exact hj)
  rw [hv] at h
  exact h

theorem rep_get {α : Type} (n : Nat) (x d : α) (i : Nat) (h : i < n) : (List.replicate n x).getD i d = x := by
  rw [List.getD_eq_getElem?_getD, List.getElem?_replicate, if_pos h]
  rfl

theorem made_text (W : World) (e : TypeId) : TextAt (W.alloc (.cells (madeCells #[.slice none 0 0, .int .i64 0] 42) e)) (some ⟨W.heap.size, 0, none⟩) (List.replicate 21 ⟨[], 0⟩) := by
  intro i hi
  rw [List.length_replicate] at hi
  rw [rep_get 21 (⟨[], 0⟩ : Sen) default i hi]
  have m0 : (i * 2) % 2 = 0 := by omega
  have m1 : (i * 2 + 1) % 2 = 1 := by omega
  exact ⟨_, 0, none, 0, rfl, by rw [Nat.zero_add]; exact made_cell W _ 42 (i * 2) e _ (by omega) (by simp [m0]), by rw [Nat.zero_add]; exact made_cell W _ 42 (i * 2 + 1) e _ (by omega) (by simp [m1]), fun k hk => by simp at hk⟩

theorem text_one (W : World) (e : TypeId) : TextAt (W.alloc (.cells #[.slice none 0 0, .int .i64 0] e)) (some ⟨W.heap.size, 0, none⟩) [⟨[], 0⟩] := by
  intro i hi
  have hi1 : i < 1 := hi
  obtain rfl : i = 0 := by omega
  exact ⟨_, 0, none, 0, rfl, by simp [go_sem], by simp [go_sem], fun k hk => by simp at hk⟩

theorem pairs_four (W : World) (e : TypeId) (a b c d : Int) : PairsAt (W.alloc (.cells #[.int .i64 a, .int .i64 b, .int .i64 c, .int .i64 d] e)) (some ⟨W.heap.size, 0, none⟩) [(a, b), (c, d)] := by
  intro i hi
  have hi2 : i < 2 := hi
  rcases i with _ | _ | i
  · exact ⟨_, 0, rfl, by simp [go_sem], by simp [go_sem]⟩
  · exact ⟨_, 0, rfl, by simp [go_sem], by simp [go_sem]⟩
  · omega

theorem names_many {a : Option Addr} {W : World} (hA : TextAt W a (List.replicate 21 ⟨[], 0⟩)) : Calls Try.prog 19 #[.slice a 21 21, .slice none 0 0] W fun e w' => e = .returned (.tuple #[.slice none 0 0, .int .i64 0, .int .i64 3]) ∧ Below W.heap.size W w' :=
  (match_any (List.replicate 21 ⟨[], 0⟩) [] 21 21 0 0 a none W (List.length_replicate ..) rfl ⟨by rw [List.length_replicate]; omega, fun s hs => by rw [(List.mem_replicate.1 hs).2]; exact Nat.zero_le _⟩ ⟨by decide, fun s hs => by cases hs⟩ hA (fun i hi => by simp at hi) (by omega) (by omega)).mono fun e w' h => by
    obtain ⟨hb, ⟨-, rfl⟩ | ⟨h, -⟩⟩ := h
    · exact ⟨by rw [ex_many], hb⟩
    · rw [ex_many] at h; omega

theorem names_small {a : Option Addr} {W : World} (hA : TextAt W a [⟨[], 0⟩]) : Calls Try.prog 19 #[.slice a 1 1, .slice none 0 0] W fun e w' => e = .returned (.tuple #[.slice none 0 0, .int .i64 0, .int .i64 1]) ∧ Below W.heap.size W w' :=
  (match_any [⟨[], 0⟩] [] 1 1 0 0 a none W rfl rfl ⟨by decide, fun s hs => by rw [List.mem_singleton.1 hs]; exact Nat.zero_le _⟩ ⟨by decide, fun s hs => by cases hs⟩ hA (fun i hi => by simp at hi) (by omega) (by omega)).mono fun e w' h => by
    obtain ⟨hb, ⟨-, rfl⟩ | ⟨h, -⟩⟩ := h
    · exact ⟨by rw [ex_small], hb⟩
    · rw [ex_small] at h; omega

theorem names_empty (W : World) : Calls Try.prog 38 #[.agg #[.slice none 0 0, .int .i64 0, .slice none 0 0], .int .i64 0] W fun e w' => e = .returned (.tuple #[.slice none 0 0, .bool false, .int .i64 1]) ∧ Below W.heap.size W w' :=
  (behindOf_any ⟨[], 0, []⟩ 0 0 0 0 0 none none W rfl rfl (by omega) (by omega) (fun i hi => by simp at hi) (fun i hi => by simp at hi)).mono fun e w' h => by
    obtain ⟨hb, ⟨-, rfl⟩ | ⟨h, -⟩ | ⟨h, -⟩⟩ := h
    · exact ⟨rfl, hb⟩
    · rw [ex_empty] at h; cases h
    · rw [ex_empty] at h; cases h

theorem names_minus {a b : Option Addr} {W : World} (hS : IntsAt W a exS.starts) (hN : PairsAt W b exS.needs) : Calls Try.prog 38 #[.agg #[.slice a 3 3, .int .i64 3, .slice b 3 3], .int .i64 (-1)] W fun e w' => e = .returned (.tuple #[.slice none 0 0, .bool false, .int .i64 2]) ∧ Below W.heap.size W w' :=
  (behindOf_any exS (-1) 3 3 3 3 a b W rfl rfl (by omega) (by omega) hS hN).mono fun e w' h => by
    obtain ⟨hb, ⟨h, -⟩ | ⟨-, -, rfl⟩ | ⟨-, h, -⟩⟩ := h
    · rw [ex_valid] at h; cases h
    · exact ⟨rfl, hb⟩
    · rw [ex_minus] at h; cases h

def exT : List Trm := [⟨3, ⟨#[98, 105, 108, 108]⟩, ⟨#[112, 114, 111, 106, 101, 116]⟩⟩, ⟨3, ⟨#[98, 105, 108, 108]⟩, ⟨#[112, 114, 111, 106, 101, 116]⟩⟩, ⟨4, ⟨#[97, 99, 116]⟩, ⟨#[108, 111, 105]⟩⟩]
def exU : List Trm := exT ++ [⟨5, ⟨#[108, 97, 119]⟩, ⟨#[108, 111, 105]⟩⟩]
def exZ : Trm := ⟨0, .empty, .empty⟩
theorem ex_same : termsE exT = 0 := by decide +kernel
theorem ex_other : termsE exU = 6 := by decide +kernel
theorem ex_zero : termsE [exZ] = 1 := by decide +kernel
theorem ex_lots : termsE (List.replicate 31 exZ) = 3 := by decide +kernel

theorem names_terms (T : List Trm) (n cap : Nat) (a : Option Addr) (W : World) (k : Nat) (hk : termsE T = k) (hT : T.length = n) (hn : n ≤ 1000000) (hc : n ≤ cap) (hS : TrmsAt W a T) : Calls Try.prog 47 #[.slice a n cap] W fun e w' => e = .returned (.int .i64 (k : Nat)) ∧ Below W.heap.size W w' := by
  subst hk
  exact terms_any T n cap a W hT hn hc hS

theorem made_terms (W : World) (e : TypeId) : TrmsAt (W.alloc (.cells (madeCells #[.int .i64 0, .string .empty, .string .empty] 93) e)) (some ⟨W.heap.size, 0, none⟩) (List.replicate 31 exZ) := by
  intro i hi
  rw [List.length_replicate] at hi
  rw [rep_get 31 exZ default i hi]
  have m0 : (i * 3) % 3 = 0 := by omega
  have m1 : (i * 3 + 1) % 3 = 1 := by omega
  have m2 : (i * 3 + 2) % 3 = 2 := by omega
  exact ⟨_, 0, rfl, by rw [Nat.zero_add]; exact made_cell W _ 93 (i * 3) e _ (by omega) (by simp [m0, exZ]), by rw [Nat.zero_add]; exact made_cell W _ 93 (i * 3 + 1) e _ (by omega) (by simp [m1, exZ]), by rw [Nat.zero_add]; exact made_cell W _ 93 (i * 3 + 2) e _ (by omega) (by simp [m2, exZ])⟩

theorem Try.info_sen : (Try.prog.info? 91).map (fun i => (i.zero, i.size, i.bytes)) = some (some (.agg #[.slice none 0 0, .int .i64 0]), 2, 32) := by kernel_rfl
theorem Try.info_trm : (Try.prog.info? 94).map (fun i => (i.zero, i.size, i.bytes)) = some (some (.agg #[.int .i64 0, .string .empty, .string .empty]), 3, 40) := by kernel_rfl

theorem make21 (W : World) : (Instr.makeSlice 30 (.int .i64 21) (.int .i64 21)).run Try.prog W = .ok (.slice (some ⟨W.heap.size, 0, none⟩) 21 21) (W.alloc (.cells (madeCells #[.slice none 0 0, .int .i64 0] 42) 91)) :=
  run_make_k 30 91 (.agg #[.slice none 0 0, .int .i64 0]) #[.slice none 0 0, .int .i64 0] 2 32 Try.underlying30 Try.info_sen rfl 21 (by omega) (by omega) W

theorem make31 (W : World) : (Instr.makeSlice 95 (.int .i64 31) (.int .i64 31)).run Try.prog W = .ok (.slice (some ⟨W.heap.size, 0, none⟩) 31 31) (W.alloc (.cells (madeCells #[.int .i64 0, .string .empty, .string .empty] 93) 94)) :=
  run_make_k 95 94 (.agg #[.int .i64 0, .string .empty, .string .empty]) #[.int .i64 0, .string .empty, .string .empty] 3 40 Try.underlying95 Try.info_trm rfl 31 (by omega) (by omega) W

def exC : List Value := [.int .i64 3, .string ⟨#[98, 105, 108, 108]⟩, .string ⟨#[112, 114, 111, 106, 101, 116]⟩, .int .i64 3, .string ⟨#[98, 105, 108, 108]⟩, .string ⟨#[112, 114, 111, 106, 101, 116]⟩, .int .i64 4, .string ⟨#[97, 99, 116]⟩, .string ⟨#[108, 111, 105]⟩]
def exD : List Value := [.int .i64 5, .string ⟨#[108, 97, 119]⟩, .string ⟨#[108, 111, 105]⟩]

theorem terms_three (W : World) (e : TypeId) : TrmsAt (W.alloc (.cells #[.int .i64 3, .string ⟨#[98, 105, 108, 108]⟩, .string ⟨#[112, 114, 111, 106, 101, 116]⟩, .int .i64 3, .string ⟨#[98, 105, 108, 108]⟩, .string ⟨#[112, 114, 111, 106, 101, 116]⟩, .int .i64 4, .string ⟨#[97, 99, 116]⟩, .string ⟨#[108, 111, 105]⟩] e)) (some ⟨W.heap.size, 0, none⟩) exT := by
  intro i hi
  have hi3 : i < 3 := hi
  rcases i with _ | _ | _ | i
  · exact ⟨_, 0, rfl, by simp [go_sem, exT], by simp [go_sem, exT], by simp [go_sem, exT]⟩
  · exact ⟨_, 0, rfl, by simp [go_sem, exT], by simp [go_sem, exT], by simp [go_sem, exT]⟩
  · exact ⟨_, 0, rfl, by simp [go_sem, exT], by simp [go_sem, exT], by simp [go_sem, exT]⟩
  · omega

theorem terms_one (W : World) (e : TypeId) : TrmsAt (W.alloc (.cells #[.int .i64 0, .string ⟨#[]⟩, .string ⟨#[]⟩] e)) (some ⟨W.heap.size, 0, none⟩) [exZ] := by
  intro i hi
  have hi1 : i < 1 := hi
  obtain rfl : i = 0 := by omega
  exact ⟨_, 0, rfl, by simp [go_sem, exZ], by simp [go_sem, exZ]; rfl, by simp [go_sem, exZ]; rfl⟩

theorem cells_three (W : World) (e : TypeId) : ∀ j u, exC[j]? = some u → (W.alloc (.cells #[.int .i64 3, .string ⟨#[98, 105, 108, 108]⟩, .string ⟨#[112, 114, 111, 106, 101, 116]⟩, .int .i64 3, .string ⟨#[98, 105, 108, 108]⟩, .string ⟨#[112, 114, 111, 106, 101, 116]⟩, .int .i64 4, .string ⟨#[97, 99, 116]⟩, .string ⟨#[108, 111, 105]⟩] e)).cell? ((⟨W.heap.size, 0, none⟩ : Addr).add j) = some u := by
  intro j u hj
  have hl : j < 9 := (List.getElem?_eq_some_iff.1 hj).1
  rw [add_plain]
  rcases j with _ | _ | _ | _ | _ | _ | _ | _ | _ | j
  all_goals first | (simp [exC] at hj; subst hj; simp [go_sem]) | omega

theorem cells_one (W : World) (e : TypeId) : ∀ j u, exD[j]? = some u → (W.alloc (.cells #[.int .i64 5, .string ⟨#[108, 97, 119]⟩, .string ⟨#[108, 111, 105]⟩] e)).cell? ((⟨W.heap.size, 0, none⟩ : Addr).add j) = some u := by
  intro j u hj
  have hl : j < 3 := (List.getElem?_eq_some_iff.1 hj).1
  rw [add_plain]
  rcases j with _ | _ | _ | j
  all_goals first | (simp [exD] at hj; subst hj; simp [go_sem]) | omega

theorem one_three : ∀ u ∈ exC, u.oneCell' = true := by
  intro u hu
  unfold exC at hu
  simp only [List.mem_cons, List.not_mem_nil, or_false] at hu
  rcases hu with rfl | rfl | rfl | rfl | rfl | rfl | rfl | rfl | rfl <;> rfl

theorem one_one : ∀ u ∈ exD, u.oneCell' = true := by
  intro u hu
  unfold exD at hu
  simp only [List.mem_cons, List.not_mem_nil, or_false] at hu
  rcases hu with rfl | rfl | rfl <;> rfl

theorem terms_own {W : World} {B : Nat} {v : Value} (h : W.ownsRow B 94 3 v 4 (exC ++ exD)) : ∃ a cap, v = .slice a 4 cap ∧ 4 ≤ cap ∧ TrmsAt W a exU := by
  have h2 := h.2
  rcases h2 with ⟨hv, h0⟩ | ⟨g, cap', cur, hv, -, -, hle, -⟩
  · omega
  · subst hv
    have hc := h.cells (g := g) rfl
    refine ⟨_, _, rfl, hle, ?_⟩
    intro i hi
    have hi4 : i < 4 := hi
    have c := fun j u hj => by
      have c0 := hc j u hj
      rw [add_plain] at c0
      exact c0
    rcases i with _ | _ | _ | _ | i
    · exact ⟨g, 0, rfl, c 0 _ rfl, c 1 _ rfl, c 2 _ rfl⟩
    · exact ⟨g, 0, rfl, c 3 _ rfl, c 4 _ rfl, c 5 _ rfl⟩
    · exact ⟨g, 0, rfl, c 6 _ rfl, c 7 _ rfl, c 8 _ rfl⟩
    · exact ⟨g, 0, rfl, c 9 _ rfl, c 10 _ rfl, c 11 _ rfl⟩
    · omega

theorem news_stay {X w1 : World} {g b : Nat} {us : List Value} (hg : X.grownBy w1 (some g)) (hb : b < X.heap.size) (hne : b ≠ g) (h : ∀ j u, us[j]? = some u → X.cell? ((⟨b, 0, none⟩ : Addr).add j) = some u) :
    ∀ j u, us[j]? = some u → w1.cell? ((⟨b, 0, none⟩ : Addr).add j) = some u := by
  intro j u hj
  have hadd : (⟨b, 0, none⟩ : Addr).add j = ⟨b, 0 + j, none⟩ := by unfold Addr.add; split <;> simp_all
  have := h j u hj
  rw [hadd] at this ⊢
  exact (World.cell?_of_block (w := X) (a := ⟨_, _, none⟩) (hg.block _ hb (by simp [hne]))).trans this

theorem cell_stay {w w' : World} (h : Below w.heap.size w w') {b j : Nat} {v : Value} (hc : w.cell? ((⟨b, 0, none⟩ : Addr).add j) = some v) : w'.cell? ((⟨b, 0, none⟩ : Addr).add j) = some v := by
  rw [add_plain] at hc ⊢
  exact cell_grown h hc

end Go.Proofs.Ytohahlnhbppnhaa
