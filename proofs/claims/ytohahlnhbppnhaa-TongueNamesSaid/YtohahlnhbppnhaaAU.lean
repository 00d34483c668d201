/- Tongue: steps of one and one; which steps are differences. Tongue: the differences of a match, where texts lie; a text and itself. -/
import Derived.Test.YtohahlnhbppnhaaW
import Derived.Test.YtohahlnhbppnhaaZ
import Derived.Deep.CutRange
import Derived.Test.YtohahlnhbppnhaaAS
import Derived.Test.YtohahlnhbppnhaaAJ
namespace Go.Proofs.Ytohahlnhbppnhaa
open Go.RowKit
set_option linter.unusedSimpArgs false
set_option linter.unusedVariables false

def onesN (n : Nat) : List (Int × Int) := List.replicate n (1, 1)

theorem onesN_succ (n : Nat) : onesN (n + 1) = onesN n ++ [(1, 1)] := by
  unfold onesN
  rw [List.replicate_succ']

set_option maxRecDepth 100000 in
set_option maxHeartbeats 1000000 in
theorem stepOnes_any (n : Nat) (w : World) (hn : n ≤ 1000) :
    Calls Try.prog 45 #[.int .i64 (n : Int)] w fun e w' => ∃ a cap, e = .returned (.slice a n cap) ∧ PairsAt w' a (onesN n) ∧ Below w.heap.size w w' := by
  obtain ⟨i0, hi0, hz0, hz1, hz2⟩ := info_parts Try.info36
  have HL : Hid (∀ j, (onesN j).length = j) := hid (fun j => by simp [onesN])
  have HSU : Hid (∀ j, onesN (j + 1) = onesN j ++ [(1, 1)]) := hid onesN_succ
  go_enter Try.func45, Try.ntmps45
  go_wp2_with fail
  go_loopw [3, 4] (fun v i wr => ∃ j : Nat, j ≤ n ∧ i = .int .i64 j ∧ wr.ownsRow w.heap.size 36 2 v j (flatP (onesN j)) ∧ Below w.heap.size w wr) (fun _ i _ => n - (intOf i).toNat)
  case atStart => exact ⟨0, Nat.zero_le _, rfl, World.ownsRow_nil _ _ _ _, Below.refl _ _⟩
  case round =>
    obtain ⟨j, hj, rfl, hown, hB⟩ := hrel
    obtain ⟨va, vc, rfl⟩ := owns_shape hown
    by_cases hlt : j < n
    · have hlt' : (j : Int) < n := by omega
      have hsz := hB.size
      have hown2 := book_owns hown (grown_none (below_alloc wr (.cells #[.int .i64 1, .int .i64 1] 36))) (fun r e => by cases e)
      go_wp2_with (at_builtin; refine wpList_append_own_at _ rfl _ _ 27 rfl w.heap.size 36 i0 (.agg #[.int .i64 0, .int .i64 0]) 2 16 Try.underlying27 hi0 hz0 hz1 hz2 rfl (by decide) _ _ _ rfl hown2 ⟨wr.heap.size, 0, none⟩ 1 1 [.int .i64 1, .int .i64 1] rfl rfl (pair_new wr _ _ 36) (by simp [Value.oneCell']) (by unfold maxLen; omega) (by omega) (by simp; omega) ?_; intro v' w5 hown' hgrow hnil hloc; have hb5 : Below w.heap.size wr w5 := (((Below.refl w.heap.size wr).alloc (by omega) _).grown hgrow (by simp; omega) (fun r e => (hown2.lt r e).1)))
      go_roundw
      case rel => exact ⟨j + 1, by omega, by go_num, by rw [HSU.out, flatP_append]; exact hown', hB.trans hb5⟩
      case measure => simp [intOf]; omega
    · have hjn : j = n := by omega
      subst hjn
      have hin := pairs_of_owns (T := onesN j) (a := va) (cap := vc) (W := wr) (e := 36) (base := w.heap.size) (by rw [HL.out]; exact hown)
      go_wp2_with fail
      go_ret
      exact ⟨va, vc, rfl, hin, hB⟩

/-- Has one side alone some mark, of a step that is taken? -/
def difM (L R : List Sen) (m : Nat × Nat × Nat × Nat) : Bool := decide (0 < apartM ((L.drop m.1).take m.2.2.1) ((R.drop m.2.1).take m.2.2.2))

/-- The differences among the first so many steps. -/
def difsM (L R : List Sen) (ms : List (Nat × Nat × Nat × Nat)) (j : Nat) : List Int := ((List.range j).filter fun i => difM L R (ms.getD i default)).map fun (i : Nat) => (i : Int)

theorem difsM_yes (L R : List Sen) (ms : List (Nat × Nat × Nat × Nat)) (j : Nat) (h : difM L R (ms.getD j default) = true) : difsM L R ms (j + 1) = difsM L R ms j ++ [(j : Int)] := by
  unfold difsM
  have e : [j].filter (fun i => difM L R (ms.getD i default)) = [j] := List.filter_cons_of_pos (p := fun i => difM L R (ms.getD i default)) h
  rw [List.range_succ, List.filter_append, List.map_append, e]
  rfl

theorem difsM_no (L R : List Sen) (ms : List (Nat × Nat × Nat × Nat)) (j : Nat) (h : difM L R (ms.getD j default) = false) : difsM L R ms (j + 1) = difsM L R ms j := by
  unfold difsM
  have e : [j].filter (fun i => difM L R (ms.getD i default)) = [] := List.filter_cons_of_neg (p := fun i => difM L R (ms.getD i default)) (by show ¬ difM L R (ms.getD j default) = true; rw [h]; simp)
  rw [List.range_succ, List.filter_append, List.map_append, e]
  simp

theorem difsM_le (L R : List Sen) (ms : List (Nat × Nat × Nat × Nat)) (j : Nat) : (difsM L R ms j).length ≤ j := by
  unfold difsM
  rw [List.length_map]
  exact Nat.le_trans (List.length_filter_le _ _) (by simp)

set_option maxRecDepth 100000 in
set_option maxHeartbeats 1000000 in
theorem differences_any (L R : List Sen) (nl cl nr cr n b mc : Nat) (la ra ma : Option Addr) (ms : List (Nat × Nat × Nat × Nat)) (w : World) (hL : L.length = nl) (hR : R.length = nr) (fL : FineT L) (fR : FineT R) (hcl : nl ≤ cl) (hcr : nr ≤ cr) (hS : TextAt w la L) (hT : TextAt w ra R)
    (hm : ms.length = n) (hn : n ≤ 1000) (hf : Fits nl nr ms) (hM : MovesAt w ma la cl ra cr ms) :
    Calls Try.prog 60 #[.agg #[.slice la nl cl, .int .u8 0, .int .i64 0, .slice ra nr cr, .int .u8 1, .int .i64 0, .slice (some ⟨b, 0, none⟩) 3 3, .slice ma n mc]] w fun e w' => ∃ a cap, e = .returned (.slice a (difsM L R ms n).length cap) ∧ IntsAt w' a (difsM L R ms n) ∧ Below w.heap.size w w' := by
  obtain ⟨i0, hi0, hz0, hz1, hz2⟩ := info_parts Try.info3
  obtain ⟨pb, hpb⟩ : ∃ q, q = w.heap.size := ⟨_, rfl⟩
  obtain ⟨W0, hW0⟩ : ∃ X, X = w.alloc (.cells #[.slice la nl cl, .int .u8 0, .int .i64 0, .slice ra nr cr, .int .u8 1, .int .i64 0, .slice (some ⟨b, 0, none⟩) 3 3, .slice ma n mc] 128) := ⟨_, rfl⟩
  have hB0 : Below w.heap.size w W0 := by rw [hW0]; exact below_alloc _ _
  have p7' : W0.cell? ⟨pb, 7, none⟩ = some (.slice ma n mc) := by rw [hW0, hpb]; simp [go_sem]
  have hnl : nl ≤ 1000 := by rw [← hL]; exact fL.1
  have hnr : nr ≤ 1000 := by rw [← hR]; exact fR.1
  replace hM := hM.grown hB0
  replace hS := hS.grown hB0
  replace hT := hT.grown hB0
  have hpr : ∀ (Z : World) (i k x y : Nat), Below W0.heap.size W0 Z → i + x ≤ nl → k + y ≤ nr → Calls Try.prog 85 #[.agg #[.int .i64 (x : Int), .int .i64 (y : Int), .slice (subA la cl i 2) x (cl - i), .int .u8 0, .int .i64 (i : Int), .slice (subA ra cr k 2) y (cr - k), .int .u8 1, .int .i64 (k : Int)]] Z fun e w' =>
      e = .returned (.int .i64 (apartM ((L.drop i).take x) ((R.drop k).take y) : Nat)) ∧ Below Z.heap.size Z w' := fun Z i k x y hbz h1 h2 =>
    apart_any ((L.drop i).take x) ((R.drop k).take y) x y i k 0 1 x (cl - i) y (cr - k) (subA la cl i 2) (subA ra cr k 2) Z (by simp; omega) (by simp; omega) (fL.part _ _) (fR.part _ _) ((hS.grown hbz).part hL hcl i x h1) ((hT.grown hbz).part hR hcr k y h2)
  have HM := hid hm
  clear hm hL hR fL fR hS hT
  go_enter Try.func60, Try.ntmps60
  go_wp2_with fail
  rw [← hW0, ← hpb]
  have gp := lt_of_cell p7'
  have HPB := hid hpb
  clear hpb hW0
  go_loopw [3, 4, 5, 9] (fun v _ _ i wr => ∃ j : Nat, j ≤ n ∧ i = .int .i64 j ∧ wr.ownsRow W0.heap.size 3 1 v (difsM L R ms j).length ((difsM L R ms j).map fun z => .int .i64 z) ∧ Below W0.heap.size W0 wr) (fun _ _ _ i _ => n - (intOf i).toNat)
  case atStart => exact ⟨0, Nat.zero_le _, rfl, World.ownsRow_nil _ _ _ _, Below.refl _ _⟩
  case round =>
    obtain ⟨j, hj, rfl, hown, hB⟩ := hrel
    have p7 := cell_grown hB p7'
    have gq := lt_of_cell p7
    by_cases hlt : j < n
    · have hlt' : (j : Int) < n := by omega
      obtain ⟨eb, off, ea, hc⟩ := (hM.grown hB) j (by rw [HM.out]; exact hlt)
      subst ea
      obtain ⟨m, hm⟩ : ∃ m, ms.getD j default = m := ⟨_, rfl⟩
      obtain ⟨c0, c1, c2, c3, c4, c5, c6, c7⟩ := hc m hm
      have hmem : m ∈ ms := by
        rw [← hm, List.getD_eq_getElem?_getD, List.getElem?_eq_getElem (by rw [HM.out]; exact hlt)]
        exact List.getElem_mem _
      obtain ⟨f1, f2, f3, f4, f5⟩ := hf m hmem
      have hyes : Hid (difM L R m = true → difsM L R ms (j + 1) = difsM L R ms j ++ [(j : Int)]) := hid (fun h => difsM_yes L R ms j (by rw [hm]; exact h))
      have hno : Hid (difM L R m = false → difsM L R ms (j + 1) = difsM L R ms j) := hid (fun h => difsM_no L R ms j (by rw [hm]; exact h))
      have hjl := difsM_le L R ms j
      obtain ⟨i, k, x, y⟩ := m
      simp only at c0 c1 c2 c3 c4 c5 c6 c7 f1 f2 f3 f4 f5
      have HD : Hid (difM L R (i, k, x, y) = decide (0 < apartM ((L.drop i).take x) ((R.drop k).take y))) := hid rfl
      clear hmem hm hc
      have ge := lt_of_cell c0
      have hcall := fun Z h => hpr Z i k x y h f1 f2
      have hq9 := apartM_le ((L.drop i).take x) ((R.drop k).take y)
      generalize apartM ((L.drop i).take x) ((R.drop k).take y) = q at hcall HD hq9
      have hsz := hB.size
      obtain ⟨dl, hdl⟩ : ∃ dl, (difsM L R ms j).length = dl := ⟨_, rfl⟩
      rw [hdl] at hown hjl
      obtain ⟨va, vc, rfl⟩ := owns_shape hown
      go_upto_region 5 with fail
      obtain ⟨W1, hW1⟩ : ∃ X, X = wr.alloc (.cells #[.int .i64 (x : Int), .int .i64 (y : Int), .slice (subA la cl i 2) x (cl - i), .int .u8 0, .int .i64 (i : Int), .slice (subA ra cr k 2) y (cr - k), .int .u8 1, .int .i64 (k : Int)] 155) := ⟨_, rfl⟩
      have hb1 : Below W0.heap.size wr W1 := by rw [hW1]; exact (Below.refl _ wr).alloc hsz _
      have hown1 : W1.ownsRow W0.heap.size 3 1 (.slice va dl vc) dl ((difsM L R ms j).map fun z => .int .i64 z) := by rw [hW1]; exact book_owns hown (grown_none (below_alloc wr _)) (fun r e => by cases e)
      have d0 : W1.cell? ⟨wr.heap.size, 0, none⟩ = some (.int .i64 (x : Int)) := by rw [hW1]; simp [go_sem]
      have d1 : W1.cell? ⟨wr.heap.size, 1, none⟩ = some (.int .i64 (y : Int)) := by rw [hW1]; simp [go_sem]
      have d2 : W1.cell? ⟨wr.heap.size, 2, none⟩ = some (.slice (subA la cl i 2) x (cl - i)) := by rw [hW1]; simp [go_sem]
      have d3 : W1.cell? ⟨wr.heap.size, 3, none⟩ = some (.int .u8 0) := by rw [hW1]; simp [go_sem]
      have d4 : W1.cell? ⟨wr.heap.size, 4, none⟩ = some (.int .i64 (i : Int)) := by rw [hW1]; simp [go_sem]
      have d5 : W1.cell? ⟨wr.heap.size, 5, none⟩ = some (.slice (subA ra cr k 2) y (cr - k)) := by rw [hW1]; simp [go_sem]
      have d6 : W1.cell? ⟨wr.heap.size, 6, none⟩ = some (.int .u8 1) := by rw [hW1]; simp [go_sem]
      have d7 : W1.cell? ⟨wr.heap.size, 7, none⟩ = some (.int .i64 (k : Int)) := by rw [hW1]; simp [go_sem]
      have gd := lt_of_cell d0
      rw [← hW1]
      clear hW1 c0 c1 c2 c3 c4 c5 c6 c7
      go_upto_region 6 with (fail)
      have hx := hcall W1 (hB.trans hb1)
      go_at_call 85
      refine hx.mono ?_
      rintro e w2 ⟨rfl, hb2⟩
      have hs1 := hb1.size
      have hb12 := hb1.trans (hb2.mono (by omega))
      have hs2 := hb12.size
      have hown2 := book_owns hown1 (grown_none hb2) (fun r e => by cases e)
      clear hx hcall hown hown1 d0 d1 d2 d3 d4 d5 d6 d7 gd ge gq p7 f1 f2 f3 f4 f5
      by_cases hpos : 0 < q
      · have hpos' : (0 : Int) < (q : Int) := by omega
        have hne := hyes.out (by rw [HD.out]; simp [hpos])
        have HNE := hid hne
        clear hne
        go_wp2_with (at_builtin; refine wpList_append_own_at _ rfl _ _ 41 rfl W0.heap.size 3 i0 (.int .i64 0) 1 8 Try.underlying41 hi0 hz0 hz1 hz2 rfl (by decide) _ _ _ rfl (hown2.alloc _) ⟨w2.heap.size, 0, none⟩ 1 1 [.int .i64 (j : Int)] rfl rfl (cell_one_new _ _ _) (by simp [Value.oneCell']) (by unfold maxLen; omega) (by omega) (by simp; omega) ?_; intro v' w5 hown' hgrow hnil hloc; have hb5 : Below W0.heap.size w2 w5 := (((Below.refl W0.heap.size w2).alloc (by omega) _).grown hgrow (by simp; omega) (fun r e => (hown2.lt r e).1)))
        go_roundw
        case rel => exact ⟨j + 1, by omega, by go_num, by rw [HNE.out, List.length_append, List.map_append, hdl]; exact hown', (hB.trans hb12).trans hb5⟩
        case measure => simp [intOf]; omega
      · have hpos' : ¬ (0 : Int) < (q : Int) := by omega
        have hne := hno.out (by rw [HD.out]; simp [hpos])
        have HNE := hid hne
        clear hne
        go_wp2_with fail
        go_roundw
        case rel => exact ⟨j + 1, by omega, by go_num, by rw [HNE.out, hdl]; exact hown2, hB.trans hb12⟩
        case measure => simp [intOf]; omega
    · have hjn : j = n := by omega
      subst hjn
      obtain ⟨va, vc, rfl⟩ := owns_shape hown
      have hin := ints_of_owns (L := difsM L R ms j) (a := va) (cap := vc) (W := wr) (e := 3) (base := W0.heap.size) hown
      go_wp2_with fail
      go_ret
      exact ⟨va, vc, rfl, hin, hB0.trans (hB.mono hB0.size)⟩

end Go.Proofs.Ytohahlnhbppnhaa

namespace Go.Proofs.Ytohahlnhbppnhaa
open Go.RowKit
set_option linter.unusedSimpArgs false
set_option linter.unusedVariables false

def DiffsPost (L R : List Sen) (l : List (Int × Int)) (w : World) (e : Ending) (w' : World) : Prop :=
  Below w.heap.size w w' ∧ ((faultM L R ≠ 0 ∧ e = .returned (.tuple #[.slice none 0 0, .int .i64 (faultM L R)])) ∨
    (faultM L R = 0 ∧ matchM L.length R.length l = none ∧ e = .returned (.tuple #[.slice none 0 0, .int .i64 9])) ∨
    (faultM L R = 0 ∧ ∃ ms a cap, matchM L.length R.length l = some ms ∧ e = .returned (.tuple #[.slice a (difsM L R ms ms.length).length cap, .int .i64 0]) ∧ IntsAt w' a (difsM L R ms ms.length)))

set_option maxHeartbeats 1000000 in
theorem diffsOf_any (L R : List Sen) (nl cl nr cr : Nat) (la ra : Option Addr) (w : World) (hL : L.length = nl) (hR : R.length = nr) (sL : Small L) (sR : Small R) (hS : TextAt w la L) (hT : TextAt w ra R) (hcl : nl ≤ cl) (hcr : nr ≤ cr) (l : List (Int × Int)) (n sc : Nat) (sa : Option Addr) (hl : l.length = n) (hn : n ≤ 1000) (hP : PairsAt w sa l) :
    Calls Try.prog 25 #[.slice la nl cl, .slice ra nr cr, .slice sa n sc] w (DiffsPost L R l w) := by
  have hmo := matchOf_any L R nl cl nr cr la ra w hL hR sL sR hS hT hcl hcr l n sc sa hl hn hP
  unfold DiffsPost
  rw [hL, hR]
  go_enter Try.func25, Try.ntmps25
  go_wp2_with (go_at_call 58; refine hmo.mono ?_; clear hmo; rintro e w1 ⟨hb1, ⟨hne, rfl⟩ | ⟨hz, hmm, rfl⟩ | ⟨hz, ms, b, b0, b2, ma, mc, hmm, rfl, hch, hmv⟩⟩)
  · have h0' : ((faultM L R : Int) != 0) = true := by simp [hne]
    generalize faultM L R = z at hne h0' ⊢
    go_wp2_with fail
    exact bodyPost_ret (v := .tuple #[.slice none 0 0, .int .i64 z]) (by simp [results, Try.f25, go_sem]) rfl ⟨hb1.alloc hb1.size _, .inl ⟨hne, rfl⟩⟩
  · go_wp2_with fail
    exact bodyPost_ret (v := .tuple #[.slice none 0 0, .int .i64 9]) (by simp [results, Try.f25, go_sem]) rfl ⟨hb1.alloc hb1.size _, .inr (.inl ⟨hz, hmm, rfl⟩)⟩
  · have hfc := match_fits hmm
    obtain ⟨l1, l2, v1, v2⟩ := fault_zero hz
    have hco := fun W hbW => differences_any L R nl cl nr cr ms.length b mc la ra ma ms W hL hR (fine_of L l1 v1).1 (fine_of R l2 v2).1 hcl hcr (hS.grown (below_then hb1 hbW)) (hT.grown (below_then hb1 hbW)) rfl (by rw [hfc.1, hl]; exact hn) hfc.2 (hmv.grown hbW)
    have HMM := hid hmm
    clear hmm hfc l1 l2 v1 v2 hch hmv hS hT hP sL sR
    go_wp2_with (go_at_call 60; refine (hco _ (below_alloc _ _)).mono ?_; rintro e w2 ⟨a, cap, rfl, hI, hb2⟩)
    exact bodyPost_ret (v := .tuple #[.slice a (difsM L R ms ms.length).length cap, .int .i64 0]) (by simp [results, Try.f25, go_sem]) rfl ⟨below_then hb1 (below_then (below_alloc _ _) hb2), .inr (.inr ⟨hz, ms, a, cap, HMM.out, rfl, hI⟩)⟩

/-- Steps of one and one are a match of a text and itself. -/
theorem ones_go (n : Nat) : ∀ d i, n - i = d → i ≤ n → ∃ ms, goM n n (onesN d) i i = some (ms, n, n) ∧ ∀ m ∈ ms, m.1 = m.2.1 ∧ m.2.2.1 = m.2.2.2 := by
  intro d
  induction d with
  | zero =>
    intro i hd hi
    have e : i = n := by omega
    subst e
    exact ⟨[], rfl, fun m hm => by cases hm⟩
  | succ d ih =>
    intro i hd hi
    obtain ⟨ms, h1, h2⟩ := ih (i + 1) (by omega) (by omega)
    have ht : takeM n n i i 1 1 = some (1, 1) := by
      have e1 : fitsM n n i i (1, 1) = true := by
        simp only [fitsM, Bool.and_eq_true, decide_eq_true_eq]
        exact ⟨by omega, by omega⟩
      unfold takeM movesM
      cases h : (kinds.filter (fitsM n n i i)).find? (isStep 1 1) with
      | none =>
        rw [List.find?_eq_none] at h
        exact absurd (by simp [isStep]) (h (1, 1) (List.mem_filter.2 ⟨by simp [kinds], e1⟩))
      | some s =>
        have := List.find?_some h
        simp only [isStep, decide_eq_true_eq] at this
        obtain ⟨x, y⟩ := s
        simp only at this
        have hx : x = 1 := by omega
        have hy : y = 1 := by omega
        rw [hx, hy]
    refine ⟨(i, i, 1, 1) :: ms, ?_, fun m hm => ?_⟩
    · show goM n n ((1, 1) :: onesN d) i i = _
      unfold goM
      simp only [ht, h1, Option.map_some]
    · rcases List.mem_cons.1 hm with rfl | hm
      · exact ⟨rfl, rfl⟩
      · exact h2 m hm

theorem ones_match (L : List Sen) : ∃ ms, matchM L.length L.length (onesN L.length) = some ms ∧ difsM L L ms ms.length = [] := by
  obtain ⟨ms, h1, h2⟩ := ones_go L.length L.length 0 rfl (Nat.zero_le _)
  refine ⟨ms, by unfold matchM; rw [h1]; simp, ?_⟩
  have hno : ∀ j, j ≤ ms.length → difsM L L ms j = [] := by
    intro j
    induction j with
    | zero => intro _; rfl
    | succ j ih =>
      intro hj
      rw [difsM_no L L ms j ?_]
      · exact ih (by omega)
      · have hm := h2 (ms.getD j default) (by rw [List.getD_eq_getElem?_getD, List.getElem?_eq_getElem (by omega)]; exact List.getElem_mem _)
        unfold difM
        rw [hm.1, hm.2, apartM_self]
        rfl
  exact hno _ (Nat.le_refl _)

end Go.Proofs.Ytohahlnhbppnhaa
