/- Tongue: sentences as pieces; the report that counts. -/
import Derived.Test.YtohahlnhbppnhaaAX
import Derived.Test.YtohahlnhbppnhaaAC
namespace Go.Proofs.Ytohahlnhbppnhaa
open Go.RowKit
set_option linter.unusedSimpArgs false
set_option linter.unusedVariables false

theorem Try.info68 : (Try.prog.info? 68).map (fun i => (i.zero, i.size, i.bytes)) = some (some (.agg #[.int .u8 0, .int .i64 0]), 2, 16) := by kernel_rfl

/-- Pieces, as cells: the side, the sentence. -/
def flatC : List (Int × Int) → List Value
  | [] => []
  | p :: l => .int .u8 p.1 :: .int .i64 p.2 :: flatC l

theorem flatC_append (l m : List (Int × Int)) : flatC (l ++ m) = flatC l ++ flatC m := by
  induction l with
  | nil => rfl
  | cons x l ih => simp [flatC, ih]

theorem flatC_length (l : List (Int × Int)) : (flatC l).length = l.length * 2 := by
  induction l with
  | nil => rfl
  | cons x l ih => simp [flatC, ih]; omega

theorem flatC_get (l : List (Int × Int)) : ∀ i, i < l.length → (flatC l)[i * 2]? = some (.int .u8 (l.getD i (0, 0)).1) ∧ (flatC l)[i * 2 + 1]? = some (.int .i64 (l.getD i (0, 0)).2) := by
  induction l with
  | nil => intro i h; simp at h
  | cons x l ih =>
    intro i h
    cases i with
    | zero => simp [flatC]
    | succ i =>
      have := ih i (by simpa using h)
      rw [show (i + 1) * 2 = i * 2 + 2 by omega]
      simpa [flatC] using this

theorem flatC_one (l : List (Int × Int)) : ∀ u ∈ flatC l, u.oneCell' = true := by
  induction l with
  | nil => intro u hu; cases hu
  | cons x l ih =>
    intro u hu
    rcases List.mem_cons.1 hu with rfl | hu
    · rfl
    · rcases List.mem_cons.1 hu with rfl | hu
      · rfl
      · exact ih u hu

/-- So many pieces of a side, from a sentence on. -/
def partC (sd : Int) (i n : Nat) : List (Int × Int) := (List.range n).map fun j => (sd, ((i + j : Nat) : Int))

theorem partC_succ (sd : Int) (i n : Nat) : partC sd i (n + 1) = partC sd i n ++ [(sd, ((i + n : Nat) : Int))] := by
  unfold partC
  rw [List.range_succ]
  simp

theorem partC_length (sd : Int) (i n : Nat) : (partC sd i n).length = n := by simp [partC]

set_option maxRecDepth 100000 in
set_option maxHeartbeats 1000000 in
theorem pieces_any (n cap i : Nat) (sd : Int) (a : Option Addr) (w : World) (hn : n ≤ 1000) (hi : i ≤ 1000) :
    Calls Try.prog 95 #[.agg #[.slice a n cap, .int .u8 sd, .int .i64 (i : Int)]] w fun e w' => ∃ r rc B, e = .returned (.slice r n rc) ∧ w.heap.size ≤ B ∧ w'.ownsRow B 68 2 (.slice r n rc) n (flatC (partC sd i n)) ∧ Below w.heap.size w w' := by
  obtain ⟨i0, hi0, hz0, hz1, hz2⟩ := info_parts Try.info68
  obtain ⟨W0, hW0⟩ : ∃ X, X = w.alloc (.cells #[.slice a n cap, .int .u8 sd, .int .i64 (i : Int)] 116) := ⟨_, rfl⟩
  have hB0 : Below w.heap.size w W0 := by rw [hW0]; exact below_alloc _ _
  have p0' : W0.cell? ⟨w.heap.size, 0, none⟩ = some (.slice a n cap) := by rw [hW0]; simp [go_sem]
  have p1' : W0.cell? ⟨w.heap.size, 1, none⟩ = some (.int .u8 sd) := by rw [hW0]; simp [go_sem]
  have p2' : W0.cell? ⟨w.heap.size, 2, none⟩ = some (.int .i64 (i : Int)) := by rw [hW0]; simp [go_sem]
  have gp := lt_of_cell p0'
  have hend := fun W => end_any n cap i sd a W hn hi
  have HSU : Hid (∀ j, partC sd i (j + 1) = partC sd i j ++ [(sd, ((i + j : Nat) : Int))]) := hid (partC_succ sd i)
  go_enter Try.func95, Try.ntmps95
  go_wp2_with fail
  rw [← hW0]
  clear hW0
  go_loopw [3, 4] (fun v k wr => ∃ j : Nat, j ≤ n ∧ k = .int .i64 ((i + j : Nat) : Int) ∧ wr.ownsRow W0.heap.size 68 2 v j (flatC (partC sd i j)) ∧ Below W0.heap.size W0 wr) (fun _ k _ => i + n - (intOf k).toNat)
  case atStart => exact ⟨0, Nat.zero_le _, rfl, World.ownsRow_nil _ _ _ _, Below.refl _ _⟩
  case round =>
    obtain ⟨j, hj, rfl, hown, hB⟩ := hrel
    obtain ⟨va, vc, rfl⟩ := owns_shape hown
    have p0 := cell_grown hB p0'
    have p1 := cell_grown hB p1'
    have p2 := cell_grown hB p2'
    have gq := lt_of_cell p0
    have hsz := hB.size
    have hs0 := hB0.size
    obtain ⟨k, hk⟩ : ∃ k, i + j = k := ⟨_, rfl⟩
    simp only [hk]
    have hsu := HSU.out j
    rw [hk] at hsu
    have HV := hid hsu
    have HK := hid hk
    clear hsu
    by_cases hlt : j < n
    · have hlt' : (k : Int) < ((i + n : Nat) : Int) := by omega
      have hlt2 : k < i + n := by omega
      obtain ⟨en, hen⟩ : ∃ en, i + n = en := ⟨_, rfl⟩
      simp only [hen] at hend hlt' hlt2
      clear hk
      go_wp2_with (first | (go_at_call 114; refine (hend _).mono ?_; rintro e w2 ⟨rfl, hb2⟩; have hown2 := book_owns hown (grown_none hb2) (fun r e => by cases e); replace p1 := cell_grown hb2 p1; replace p2 := cell_grown hb2 p2; replace gq := lt_of_cell p1; have hs2 := hb2.size; have hown3 := book_owns hown2 (grown_none (below_alloc w2 (.cells #[.int .u8 sd, .int .i64 (k : Int)] 68))) (fun r e => by cases e)) | (at_builtin; refine wpList_append_own_at _ rfl _ _ 62 rfl W0.heap.size 68 i0 (.agg #[.int .u8 0, .int .i64 0]) 2 16 Try.underlying62 hi0 hz0 hz1 hz2 rfl (by decide) _ _ _ rfl hown3 ⟨w2.heap.size, 0, none⟩ 1 1 [.int .u8 sd, .int .i64 (k : Int)] rfl rfl (pair_new w2 _ _ 68) (by simp [Value.oneCell']) (by unfold maxLen; omega) (by omega) (by simp; omega) ?_; intro v' w5 hown' hgrow hnil hloc; have hb5 : Below W0.heap.size w2 w5 := (((Below.refl W0.heap.size w2).alloc (by omega) _).grown hgrow (by simp; omega) (fun r e => (hown2.lt r e).1))))
      go_roundw
      case rel => exact ⟨j + 1, by omega, by rw [show i + (j + 1) = k + 1 by have := HK.out; omega]; go_num, by rw [HV.out, flatC_append]; exact hown', hB.trans ((hb2.mono hsz).trans hb5)⟩
      case measure => have := HK.out; simp [intOf]; omega
    · have hjn : j = n := by omega
      have hlt' : ¬ (k : Int) < ((i + n : Nat) : Int) := by omega
      have hlt2 : ¬ k < i + n := by omega
      obtain ⟨en, hen⟩ : ∃ en, i + n = en := ⟨_, rfl⟩
      simp only [hen] at hend hlt' hlt2
      clear hk
      go_wp2_with (go_at_call 114; refine (hend _).mono ?_; rintro e w2 ⟨rfl, hb2⟩; have hown2 := book_owns hown (grown_none hb2) (fun r e => by cases e))
      go_ret
      exact ⟨va, vc, W0.heap.size, rfl, hs0, by rw [hjn] at hown2; exact hown2, hB0.trans ((hB.trans (hb2.mono hsz)).mono hs0)⟩

end Go.Proofs.Ytohahlnhbppnhaa
