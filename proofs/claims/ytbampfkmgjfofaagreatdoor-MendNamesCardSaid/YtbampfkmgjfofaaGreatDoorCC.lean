/- Mend, the laws: swaps in new memory (Swaps); which mark may become which by the reference (becomes). Mend, the laws: the trouble by the reference: Trouble. -/
import Derived.Test.YtbampfkmgjfofaaGreatDoorR
import Derived.Test.YtbampfkmgjfofaaGreatDoorL
import Derived.Deep.RegionLaw
import Derived.Deep.AppendLies
import Derived.Deep.RegionHeld3
import Derived.IntWalk
namespace Go.Proofs.YtbampfkmgjfofaaGreatDoor
open Go.RowKit

theorem swaps_of_ownsN {W : World} {base : Nat} {e : TypeId} {a : Option Addr} {n cap : Nat} {L : List (Int × Int × Int)} (h : W.ownsRow base e 3 (.slice a n cap) n (flatV swapC L)) (hL : L.length = n) : SwapsAt W a L := by
  subst hL
  exact swaps_of_owns h

theorem take_step {α : Type} {L : List α} {k : Nat} (d : α) (hk : k < L.length) : L.take (k + 1) = L.take k ++ [L.getD k d] := by
  rw [List.take_add_one, List.getElem?_eq_getElem hk, List.getD_eq_getElem?_getD, List.getElem?_eq_getElem hk]
  rfl

theorem Tryz.info89 : (Tryz.prog.info? 89).map (fun i => (i.zero, i.size, i.bytes)) = some (some (.agg #[.int .u8 0, .int .i64 0, .int .i64 0]), 3, 24) := by kernel_rfl

/-- What Swaps returns, with its memory. -/
def SwapsPost (S : List (Int × Int × Int)) (n : Nat) (w : World) (e : Ending) (w' : World) : Prop :=
  ∃ ra rc, e = .returned (.slice ra n rc) ∧ SwapsAt w' ra S ∧ Below w.heap.size w w'

set_option maxRecDepth 100000 in
set_option maxHeartbeats 2000000 in
theorem swaps_any (S : List (Int × Int × Int)) (n cap : Nat) (a : Option Addr) (w : World) (hL : S.length = n) (hn : n ≤ 1000) (hS : SwapsAt w a S) : Calls Tryz.prog 27 #[.slice a n cap] w (SwapsPost S n w) := by
  have HL := hid hL
  clear hL
  obtain ⟨i9, hi, hz0, hz1, hz2⟩ := info_parts Tryz.info89
  go_enter Tryz.func27, Tryz.ntmps27
  go_wp2_with fail
  go_loopw [3, 4] (fun v i wr => ∃ k : Nat, k ≤ n ∧ i = .int .i64 k ∧ wr.ownsRow w.heap.size 89 3 v k (flatV swapC (S.take k)) ∧ Below w.heap.size w wr) (fun _ i _ => n - (intOf i).toNat)
  case atStart => exact ⟨0, Nat.zero_le _, rfl, World.ownsRow_nil _ _ _ _, Below.refl _ _⟩
  case round =>
    obtain ⟨k, hk, rfl, hown, hB⟩ := hrel
    have hz := hB.size
    by_cases hlt : k < n
    · have hlt' : (k : Int) < (n : Int) := by omega
      have hkl : k < S.length := by rw [HL.out]; exact hlt
      obtain ⟨b, off, rfl, e0, e1, e2⟩ := (hS.grown hB) k hkl
      have htk := take_step (L := S) (k := k) (0, 0, 0) hkl
      generalize S.getD k (0, 0, 0) = x at e0 e1 e2 htk
      obtain ⟨x1, x2, x3⟩ := x
      have HTK := hid htk
      simp only at e0 e1 e2
      clear htk hlt
      have gb := lt_of_cell e0
      go_wp2_with fail
      go_region_law (refine step_append_lies _ rfl _ _ 49 rfl w.heap.size 89 i9 (.agg #[.int .u8 0, .int .i64 0, .int .i64 0]) 3 24 Tryz.underlying49 hi hz0 hz1 hz2 rfl (by decide) _ k _ rfl (hown.alloc (.cells #[.int .u8 x1, .int .i64 x2, .int .i64 x3] 89)) ⟨wr.heap.size, 0, none⟩ 1 1 [.int .u8 x1, .int .i64 x2, .int .i64 x3] rfl rfl (cell_three_new _ _ _ _ _) (fun y hy => by simp at hy; rcases hy with rfl | rfl | rfl <;> rfl) (by omega) (by unfold maxLen; omega) (by omega) (by simp; omega) (wr.heap.size + 1) (by simp) ?_; intro g cp w3 hown' hgrow hat hlt'; have hb3 : Below w.heap.size wr.drew w3 := below_of_grown (Below.refl _ _) hown hgrow hz; have hb4 : Below w.heap.size w w3 := hB.trans (((Below.refl wr.heap.size wr).drew.mono hz).trans hb3); clear hgrow hat hb3)
      all_goals
        go_wp2
        go_roundw
        case rel => exact ⟨k + 1, by omega, by go_num, by rw [HTK.out, flatV_snoc]; exact hown', hb4⟩
        case measure => simp [intOf]; omega
    · have hkn : k = n := by omega
      subst hkn
      have hfull : S.take k = S := List.take_of_length_le (by rw [HL.out]; omega)
      rw [hfull] at hown
      obtain ⟨ra, rc, rfl⟩ := owns_shape hown
      have HO := hid (swaps_of_ownsN hown HL.out)
      clear hown hfull hlt
      go_wp2
      go_ret
      exact ⟨ra, rc, rfl, HO.out, hB⟩

theorem Tryz.guard113 : Tryz.prog.eqGuardType Tryz.prog.depth 113 = false := by kernel_rfl

theorem refMark_eql (x y : Int × Int) (w : World) : (binOp .eql 113 (.agg #[.int .u8 x.1, .int .i64 x.2]) (.agg #[.int .u8 y.1, .int .i64 y.2])).run Tryz.prog w = .ok (.bool (decide (x = y))) w := by
  have u3 := Tryz.underlying3
  have a3 := Tryz.isAgg3
  have z3 := Tryz.sizeOf3
  have u5 := Tryz.underlying5
  have a5 := Tryz.isAgg5
  have z5 := Tryz.sizeOf5
  have hS : Tryz.prog.underlying 113 = some (.struct (Tryz.prog.fieldsOf 113)) := by kernel_rfl
  have hp : Tryz.prog.stoodInHeld 113 = false := by kernel_rfl
  obtain ⟨x1, x2⟩ := x
  obtain ⟨y1, y2⟩ := y
  simp only
  rw [run_eql_struct, show (10000 : Nat) = 9999 + 1 from rfl, run_equalIn_agg w 9999 113 _ _ hS hp]
  simp only [Program.fieldsOf, Tryz.underlying113]
  go_simp
  by_cases h1 : x1 = y1 <;> by_cases h2 : x2 = y2 <;> simp [h1, h2]

theorem hasSwap_hit {S : List (Int × Int × Int)} {k : Nat} {s : Int × Int × Int} (hk : k < S.length) (h : S.getD k (0, 0, 0) = s) : hasSwap S s = true := by
  unfold hasSwap
  rw [List.any_eq_true]
  refine ⟨s, ?_, by simp⟩
  rw [← h, List.getD_eq_getElem?_getD, List.getElem?_eq_getElem hk, Option.getD_some]
  exact List.getElem_mem _

theorem hasSwap_none {S : List (Int × Int × Int)} {n : Nat} {s : Int × Int × Int} (hL : S.length = n) (h : ∀ i, i < n → S.getD i (0, 0, 0) ≠ s) : hasSwap S s = false := by
  unfold hasSwap
  rw [List.any_eq_false]
  intro x hx
  obtain ⟨i, hi, rfl⟩ := List.mem_iff_getElem.1 hx
  have := h i (by rw [← hL]; exact hi)
  rw [List.getD_eq_getElem?_getD, List.getElem?_eq_getElem hi, Option.getD_some] at this
  simpa using this

set_option maxRecDepth 100000 in
set_option maxHeartbeats 4000000 in
theorem becomes_any (S : List (Int × Int × Int)) (n cap : Nat) (a : Option Addr) (x y : Int × Int) (w : World) (hL : S.length = n) (hn : n ≤ 1000) (hS : SwapsAt w a S) :
    Calls Tryz.prog 58 #[.slice a n cap, .agg #[.int .u8 x.1, .int .i64 x.2], .agg #[.int .u8 y.1, .int .i64 y.2]] w fun e w' => e = .returned (.bool (mayM S x y)) ∧ Below w.heap.size w w' := by
  obtain ⟨z, hz⟩ : ∃ z, mayM S x y = z := ⟨_, rfl⟩
  rw [hz]
  have HZ := hid hz
  have HL := hid hL
  clear hz hL
  obtain ⟨x1, x2⟩ := x
  obtain ⟨y1, y2⟩ := y
  simp only
  obtain ⟨W1, hW1⟩ : ∃ W1, W1 = (w.alloc (.cells #[.int .u8 x1, .int .i64 x2] 113)).alloc (.cells #[.int .u8 y1, .int .i64 y2] 113) := ⟨_, rfl⟩
  have hB1 : Below w.heap.size w W1 := by rw [hW1]; exact ((Below.refl _ w).alloc (Nat.le_refl _) _).alloc (by simp) _
  have p0 : W1.cell? ⟨w.heap.size, 0, none⟩ = some (.int .u8 x1) := by rw [hW1]; simp [go_sem]
  have p1 : W1.cell? ⟨w.heap.size, 1, none⟩ = some (.int .i64 x2) := by rw [hW1]; simp [go_sem]
  have p2 : W1.cell? ⟨w.heap.size + 1, 0, none⟩ = some (.int .u8 y1) := by rw [hW1]; simp [go_sem]
  have p3 : W1.cell? ⟨w.heap.size + 1, 1, none⟩ = some (.int .i64 y2) := by rw [hW1]; simp [go_sem]
  have z1 : W1.heap.size = w.heap.size + 2 := by rw [hW1]; simp
  have hS1 := hS.grown hB1
  clear hS
  have heq := fun w => refMark_eql (x1, x2) (y1, y2) w
  simp only at heq
  have hgu := Tryz.guard113
  by_cases h1 : ((x1, x2) : Int × Int) = (y1, y2)
  · have h1' : decide (((x1, x2) : Int × Int) = (y1, y2)) = true := by simpa using h1
    rw [h1'] at heq
    have hzt : z = true := by rw [← HZ.out, mayM, h1']; rfl
    clear h1 h1' HZ
    go_enter Tryz.func58, Tryz.ntmps58
    go_wp2_with fail
    rw [← hW1]
    clear hW1
    go_wp2
    go_ret
    exact ⟨by rw [hzt]; rfl, hB1⟩
  · have h1' : decide (((x1, x2) : Int × Int) = (y1, y2)) = false := by simpa using h1
    rw [h1'] at heq
    have HZ2 : Hid ((decide (x1 = y1) && hasSwap S (x1, x2, y2)) = z) := hid (by rw [← HZ.out, mayM, h1']; rfl)
    clear h1 h1' HZ
    go_enter Tryz.func58, Tryz.ntmps58
    go_wp2_with fail
    rw [← hW1]
    clear hW1
    go_wp2_with fail
    clear heq
    go_loopw [7] (fun i wr => ∃ k : Nat, k ≤ n ∧ i = .int .i64 k ∧ Hid (∀ i, i < k → x1 = y1 → S.getD i (0, 0, 0) ≠ (x1, x2, y2)) ∧ Below W1.heap.size W1 wr) (fun i _ => n - (intOf i).toNat)
    case atStart => exact ⟨0, Nat.zero_le _, rfl, hid (fun i hi => by omega), Below.refl _ _⟩
    case round =>
      obtain ⟨k, hk, rfl, HK, hB⟩ := hrel
      have hz := hB.size
      have d0 := cell_below hB (by omega) p0
      have d1 := cell_below hB (by omega) p1
      have d2 := cell_below hB (by omega) p2
      have d3 := cell_below hB (by omega) p3
      have dl := lt_of_cell d2
      have dl0 := lt_of_cell d0
      by_cases hlt : k < n
      · have hlt' : (k : Int) < (n : Int) := by omega
        obtain ⟨b, off, rfl, e0, e1, e2⟩ := (hS1.grown hB) k (by rw [HL.out]; exact hlt)
        obtain ⟨s, hs⟩ : ∃ x, S.getD k (0, 0, 0) = x := ⟨_, rfl⟩
        rw [hs] at e0 e1 e2
        have HX := hid hs
        clear hs
        obtain ⟨s1, s2, s3⟩ := s
        simp only at e0 e1 e2
        have gb := lt_of_cell e0
        have hHit : x1 = y1 → s1 = x1 → s2 = x2 → s3 = y2 → z = true := fun q1 q2 q3 q4 => by
          rw [← HZ2.out, q1, decide_eq_true rfl, Bool.true_and]
          refine hasSwap_hit (k := k) (by rw [HL.out]; exact hlt) ?_
          rw [HX.out, q2, q1, q3, q4]
        have HH := hid hHit
        clear hHit
        have step : ∀ (_ : Hid (¬ (x1 = y1 ∧ s1 = x1 ∧ s2 = x2 ∧ s3 = y2))), Hid (∀ i, i < k + 1 → x1 = y1 → S.getD i (0, 0, 0) ≠ (x1, x2, y2)) := fun hq => hid (fun i hi hxy => by
          by_cases e : i = k
          · subst e
            rw [HX.out]
            intro e
            injection e with e1 e2
            injection e2 with e2 e3
            exact hq.out ⟨hxy, e1, e2, e3⟩
          · exact HK.out i (by omega) hxy)
        have HST := hid step
        clear step
        have hBn := hB.alloc hz (.cells #[.int .u8 s1, .int .i64 s2, .int .i64 s3] 96)
        by_cases q1 : x1 = y1
        · have b1 : (x1 == y1) = true := by simpa using q1
          by_cases q2 : s1 = x1
          · have b2 : (s1 == x1) = true := by simpa using q2
            by_cases q3 : s2 = x2
            · have b3 : (s2 == x2) = true := by simpa using q3
              by_cases q4 : s3 = y2
              · have b4 : (s3 == y2) = true := by simpa using q4
                have hzt := HH.out q1 q2 q3 q4
                clear q1 q2 q3 q4
                go_wp2
                go_ret
                exact ⟨by rw [hzt]; rfl, below_then hB1 hBn⟩
              · have b4 : (s3 == y2) = false := by simpa using q4
                have HK2 := HST.out (hid (fun h => q4 h.2.2.2))
                clear q1 q2 q3 q4
                go_wp2
                go_roundw
                case rel => exact ⟨k + 1, by omega, by go_num, HK2, hBn⟩
                case measure => simp [intOf]; omega
            · have b3 : (s2 == x2) = false := by simpa using q3
              have HK2 := HST.out (hid (fun h => q3 h.2.2.1))
              clear q1 q2 q3
              go_wp2
              go_roundw
              case rel => exact ⟨k + 1, by omega, by go_num, HK2, hBn⟩
              case measure => simp [intOf]; omega
          · have b2 : (s1 == x1) = false := by simpa using q2
            have HK2 := HST.out (hid (fun h => q2 h.2.1))
            clear q1 q2
            go_wp2
            go_roundw
            case rel => exact ⟨k + 1, by omega, by go_num, HK2, hBn⟩
            case measure => simp [intOf]; omega
        · have b1 : (x1 == y1) = false := by simpa using q1
          have HK2 := HST.out (hid (fun h => q1 h.1))
          clear q1
          go_wp2
          go_roundw
          case rel => exact ⟨k + 1, by omega, by go_num, HK2, hBn⟩
          case measure => simp [intOf]; omega
      · have hkn : k = n := by omega
        subst hkn
        have hzf : z = false := by
          rw [← HZ2.out]
          by_cases q : x1 = y1
          · rw [hasSwap_none HL.out (fun i hi => HK.out i hi q)]
            simp
          · simp [q]
        clear hlt
        go_wp2
        go_ret
        exact ⟨by rw [hzf]; rfl, below_then hB1 hB⟩

end Go.Proofs.YtbampfkmgjfofaaGreatDoor

namespace Go.Proofs.YtbampfkmgjfofaaGreatDoor
open Go.RowKit

theorem Tryz.info71 : (Tryz.prog.info? 71).map (fun i => (i.zero, i.size, i.bytes)) = some (some (.slice none 0 0), 1, 24) := by kernel_rfl

theorem tabM_zero (S : List (Int × Int × Int)) (a b : List (Int × Int)) (k : Nat) : tabM S a b 0 k = k := by rw [tabM]
theorem tabM_left (S : List (Int × Int × Int)) (a b : List (Int × Int)) (i : Nat) : tabM S a b i 0 = i := by cases i <;> simp [tabM]

/-- The row before the one that is being filled. -/
def PrevRow (S : List (Int × Int × Int)) (A B : List (Int × Int)) (tb m : Nat) (V : Nat → Value) (w : World) (lim : Nat) : Nat → Prop
  | 0 => True
  | i + 1 => ∃ (rb : Nat) (f : Nat → Int), V i = .slice (some ⟨rb, 0, none⟩) (m + 1) (m + 1) ∧ w.rowIs rb 3 (m + 1) (fun j => .int .i64 (f j)) ∧ tb < rb ∧ rb < lim ∧ ∀ j, j ≤ m → f j = tabM S A B i j

set_option maxRecDepth 100000 in
set_option maxHeartbeats 8000000 in
theorem refTrouble_any (S : List (Int × Int × Int)) (sn sc : Nat) (sa : Option Addr) (A B : List (Int × Int)) (n m nc mc : Nat) (aa ba : Option Addr) (w : World) (hs : S.length = sn) (hsn : sn ≤ 1000) (hS : SwapsAt w sa S)
    (hA : A.length = n) (hn : n ≤ 100) (hAm : Marks w aa A) (hB : B.length = m) (hm : m ≤ 100) (hBm : Marks w ba B) :
    Calls Tryz.prog 29 #[.slice sa sn sc, .slice aa n nc, .slice ba m mc] w fun e w' => e = .returned (.int .i64 (troubleM S A B)) ∧ Below w.heap.size w w' := by
  have HS := hid hs; have HA := hid hA; have HB := hid hB
  clear hs hA hB
  have hmk : ∀ W : World, (Instr.makeSlice 71 (.int .i64 ((m : Int) + 1)) (.int .i64 ((m : Int) + 1))).run Tryz.prog W = .ok (.slice (some ⟨W.heap.size, 0, none⟩) (m + 1) (m + 1)) (W.alloc (.cells (madeCells #[.int .i64 0] (m + 1)) 3)) := fun W =>
    run_make_row' (P := Tryz.prog) 71 3 (.int .i64 0) 8 Tryz.underlying71 Tryz.info3 rfl .i64 .i64 (m + 1) (by omega) (by omega) W
  have hmo : ∀ W : World, (Instr.makeSlice 125 (.int .i64 ((n : Int) + 1)) (.int .i64 ((n : Int) + 1))).run Tryz.prog W = .ok (.slice (some ⟨W.heap.size, 0, none⟩) (n + 1) (n + 1)) (W.alloc (.cells (madeCells #[.slice none 0 0] (n + 1)) 71)) := fun W =>
    run_make_row' (P := Tryz.prog) 125 71 (.slice none 0 0) 24 Tryz.underlying125 Tryz.info71 rfl .i64 .i64 (n + 1) (by omega) (by omega) W
  have hm1 : (m : Int) + 1 ≤ 101 := by omega
  have hn1 : (n : Int) + 1 ≤ 101 := by omega
  obtain ⟨tb, htb⟩ : ∃ b, w.heap.size = b := ⟨_, rfl⟩
  obtain ⟨W0, hW0⟩ : ∃ W, W = w.alloc (.cells (madeCells #[.slice none 0 0] (n + 1)) 71) := ⟨_, rfl⟩
  have hB0 : Below w.heap.size w W0 := by rw [hW0]; exact below_alloc w _
  have hT0 : W0.rowIs tb 71 (n + 1) (fun _ => .slice none 0 0) := by rw [hW0, ← htb]; exact World.rowIs_made w _ _ _
  have z0 : W0.heap.size = tb + 1 := by rw [hW0, ← htb]; simp
  rw [htb] at hB0
  go_enter Tryz.func29, Tryz.ntmps29
  go_wp2_with fail
  rw [← hW0]
  have HTB := hid htb
  clear hW0 hmo htb
  go_loopw [8] (fun i wr => ∃ (k : Nat) (V : Nat → Value), k ≤ n + 1 ∧ i = .int .i64 k ∧ wr.rowIs tb 71 (n + 1) V ∧ Below tb w wr ∧ Hid (PrevRow S A B tb m V wr wr.heap.size k)) (fun i _ => n + 1 - (intOf i).toNat)
  case atStart => exact ⟨0, _, Nat.zero_le _, rfl, hT0, hB0, hid trivial⟩
  case round =>
    obtain ⟨i, V, hi, rfl, hT, hB, HR⟩ := hrel
    have tl := hT.lt
    by_cases hlt : i ≤ n
    · have hlt' : (i : Int) ≤ (n : Int) := by omega
      have g0 := hT.frozen i
      have g1 := hT.cell (i := i) (by omega)
      obtain ⟨rb2, hrb2⟩ : ∃ b, wr.heap.size = b := ⟨_, rfl⟩
      obtain ⟨X, hX⟩ : ∃ X, X = (wr.setCell ⟨tb, i, none⟩ (.slice (some ⟨rb2, 0, none⟩) (m + 1) (m + 1))).alloc (.cells (madeCells #[.int .i64 0] (m + 1)) 3) := ⟨_, rfl⟩
      have hTX : X.rowIs tb 71 (n + 1) (fun j => if j = i then .slice (some ⟨rb2, 0, none⟩) (m + 1) (m + 1) else V j) := by rw [hX]; exact (hT.set i _).alloc _
      have hRX : X.rowIs rb2 3 (m + 1) (fun _ => .int .i64 ((fun _ => 0 : Nat → Int) 0)) := by
        have h := World.rowIs_made (wr.setCell ⟨tb, i, none⟩ (.slice (some ⟨rb2, 0, none⟩) (m + 1) (m + 1))) (.int .i64 0) (m + 1) 3
        rw [World.size_setCell, hrb2] at h
        rw [hX]
        exact h
      have hBX : Below tb w X := by rw [hX]; exact (hB.setCell (p := ⟨tb, i, none⟩) (Nat.le_refl _) _).alloc (by simp; omega) _
      have hne : tb < rb2 := by omega
      have HP : Hid (PrevRow S A B tb m (fun j => if j = i then .slice (some ⟨rb2, 0, none⟩) (m + 1) (m + 1) else V j) X rb2 i) := hid (by
        cases i with
        | zero => trivial
        | succ i' =>
          obtain ⟨rb, f, h1, h2, h3, h5, h4⟩ := HR.out
          refine ⟨rb, f, by simp only [show ¬ i' = i' + 1 by omega, if_false]; exact h1, ?_, h3, by omega, h4⟩
          rw [hX]
          exact (h2.setOther (by show rb ≠ tb; omega) _).alloc _)
      clear HR hT hB
      go_wp2_with fail
      rw [← hX]
      clear hX hrb2 g0 g1 tl
      generalize hV : (fun j => if j = i then Value.slice (some ⟨rb2, 0, none⟩) (m + 1) (m + 1) else V j) = U at hTX HP
      have hUi : U i = .slice (some ⟨rb2, 0, none⟩) (m + 1) (m + 1) := by rw [← hV]; simp
      clear hV
      have HUI := hid hUi
      clear hUi
      clear V
      have hend : ∀ (wi : World) (g : Nat → Int), wi.rowIs rb2 3 (m + 1) (fun j => .int .i64 (g j)) → (∀ j, j < m + 1 → g j = tabM S A B i j) → PrevRow S A B tb m U wi wi.heap.size (i + 1) := fun wi g h1 h2 =>
        ⟨rb2, g, HUI.out, h1, hne, h1.lt, fun j hj => h2 j (by omega)⟩
      have HEND := hid hend
      clear hend
      cases i with
      | zero =>
        clear HP
        go_loopw [9] (fun kk wi => ∃ (k : Nat) (g : Nat → Int), k ≤ m + 1 ∧ kk = .int .i64 k ∧ wi.rowIs tb 71 (n + 1) U ∧ wi.rowIs rb2 3 (m + 1) (fun j => .int .i64 (g j)) ∧ Below tb w wi ∧ Hid (∀ j, j < k → g j = tabM S A B 0 j)) (fun kk _ => m + 1 - (intOf kk).toNat)
        case atStart => exact ⟨0, _, Nat.zero_le _, rfl, hTX, hRX, hBX, hid (fun j h => by omega)⟩
        case round =>
          obtain ⟨k, g, hk, rfl, hT, hR, hB, HG⟩ := hrel
          by_cases hlk : k ≤ m
          · have hlk' : (k : Int) ≤ (m : Int) := by omega
            have q0 := hT.cell (i := 0) (by omega)
            rw [HUI.out] at q0
            have ql := hT.lt
            have r0 := hR.cell (i := k) (by omega)
            have rf := hR.frozen k
            have rl := hR.lt
            have hT' := hT.setOther (a := ⟨rb2, k, none⟩) (by show tb ≠ rb2; omega) (.int .i64 (k : Int))
            have hR' := (hR.set k (.int .i64 (k : Int))).congr (g := fun j => .int .i64 (if j = k then (k : Int) else g j)) (fun j _ => by by_cases e : j = k <;> simp [e])
            have hB' := hB.setCell (p := ⟨rb2, k, none⟩) (by show tb ≤ rb2; omega) (.int .i64 (k : Int))
            clear hT hR hB
            go_wp2
            go_roundw
            case rel => exact ⟨k + 1, _, by omega, by go_num, hT', hR', hB', hid (fun j hj => by
              by_cases e : j = k
              · subst e; simp [tabM_zero]
              · simp only [e, if_false]; exact HG.out j (by omega))⟩
            case measure => simp [intOf]; omega
          · have hlk' : ¬ (k : Int) ≤ (m : Int) := by omega
            have HP := HEND.out wr g hR (fun j hj => HG.out j (by omega))
            go_wp2
            go_roundw
            case rel => exact ⟨0 + 1, U, by omega, by go_num, hT, hB, hid HP⟩
            case measure => first | (simp [intOf]; done) | (simp [intOf]; omega)
      | succ i =>
        obtain ⟨rb, f, hUf, hF, hrb, hrl, hfv⟩ := HP.out
        have HUF := hid hUf
        have HFV := hid hfv
        clear HP hUf hfv
        have hrb2 : rb ≠ rb2 := by omega
        clear hrl
        have i0 : ((i + 1 : Nat) : Int) = (i : Int) + 1 := by omega
        rw [i0]
        clear i0
        go_loopw [9] (fun kk wi => ∃ (k : Nat) (g : Nat → Int), k ≤ m + 1 ∧ kk = .int .i64 k ∧ wi.rowIs tb 71 (n + 1) U ∧ wi.rowIs rb 3 (m + 1) (fun j => .int .i64 (f j)) ∧ wi.rowIs rb2 3 (m + 1) (fun j => .int .i64 (g j)) ∧ Below tb w wi ∧ Hid (∀ j, j < k → g j = tabM S A B (i + 1) j)) (fun kk _ => m + 1 - (intOf kk).toNat)
        case atStart => exact ⟨0, _, Nat.zero_le _, rfl, hTX, hF, hRX, hBX, hid (fun j h => by omega)⟩
        case round =>
          obtain ⟨k, g, hk, rfl, hT, hF, hR, hB, HG⟩ := hrel
          by_cases hlk : k ≤ m
          · have hlk' : (k : Int) ≤ (m : Int) := by omega
            have q1 := hT.cell (i := i + 1) (by omega)
            rw [HUI.out] at q1
            have ql := hT.lt
            have rf := hR.frozen k
            have rl := hR.lt
            have pl := hF.lt
            cases k with
            | zero =>
              have r0 := hR.cell (i := 0) (by omega)
              have hT' := hT.setOther (a := ⟨rb2, 0, none⟩) (by show tb ≠ rb2; omega) (.int .i64 ((i : Int) + 1))
              have hF' := hF.setOther (a := ⟨rb2, 0, none⟩) (by show rb ≠ rb2; exact hrb2) (.int .i64 ((i : Int) + 1))
              have hR' := (hR.set 0 (.int .i64 ((i : Int) + 1))).congr (g := fun j => .int .i64 (if j = 0 then ((i : Int) + 1) else g j)) (fun j _ => by by_cases e : j = 0 <;> simp [e])
              have hB' := hB.setCell (p := ⟨rb2, 0, none⟩) (by show tb ≤ rb2; omega) (.int .i64 ((i : Int) + 1))
              clear hT hR hB hF
              go_wp2
              go_roundw
              case rel => exact ⟨0 + 1, _, by omega, by go_num, hT', hF', hR', hB', hid (fun j hj => by
                have e : j = 0 := by omega
                subst e
                simp [tabM_left])⟩
              case measure => simp [intOf]
            | succ k =>
              have q0 := hT.cell (i := i) (by omega)
              rw [HUF.out] at q0
              obtain ⟨ab, aoff, ea, e1, e2⟩ := hAm i (by rw [HA.out]; omega)
              obtain ⟨x, hx⟩ : ∃ x, A.getD i (0, 0) = x := ⟨_, rfl⟩
              rw [hx] at e1 e2
              have HX := hid hx
              clear hx
              obtain ⟨x1, x2⟩ := x
              simp only at e1 e2
              subst ea
              obtain ⟨bb, boff, eb, d1, d2⟩ := hBm k (by rw [HB.out]; omega)
              obtain ⟨y, hy⟩ : ∃ y, B.getD k (0, 0) = y := ⟨_, rfl⟩
              rw [hy] at d1 d2
              have HY := hid hy
              clear hy
              obtain ⟨y1, y2⟩ := y
              simp only at d1 d2
              subst eb
              have la := lt_of_cell e1
              have lb := lt_of_cell d1
              rw [HTB.out] at la lb
              replace e1 := cell_below hB la e1
              replace e2 := cell_below hB la e2
              replace d1 := cell_below hB lb d1
              replace d2 := cell_below hB lb d2
              have ga := lt_of_cell e1
              have gb := lt_of_cell d1
              have hSw : SwapsAt wr sa S := hS.grown (by rw [HTB.out]; exact hB)
              have hk101 : (k : Int) ≤ 100 := by omega
              have hi101 : (i : Int) ≤ 100 := by omega
              have HF0 := hid (HFV.out k (by omega))
              have HF1 := hid (HFV.out (k + 1) (by omega))
              have HG0 := hid (HG.out k (by omega))
              have b0 := tabM_bd S A B i k
              have b1 := tabM_bd S A B i (k + 1)
              have b2 := tabM_bd S A B (i + 1) k
              have hnx : tabM S A B (i + 1) (k + 1) = min (min (f k + if mayM S (x1, x2) (y1, y2) then 0 else 1) (f (k + 1) + 1)) (g k + 1) := by
                rw [HF0.out, HF1.out, HG0.out, ← HX.out, ← HY.out]
                simp only [tabM]
              rw [← HF0.out] at b0
              rw [← HF1.out] at b1
              rw [← HG0.out] at b2
              have HNX := hid hnx
              clear hnx
              have hbd0 : 0 ≤ f k ∧ f k ≤ 300 := by omega
              have hbd1 : 0 ≤ f (k + 1) ∧ f (k + 1) ≤ 300 := by omega
              have hbd2 : 0 ≤ g k ∧ g k ≤ 300 := by omega
              clear b0 b1 b2
              have p0 := hF.cell (i := k) (by omega)
              have p1 := hF.cell (i := k + 1) (by omega)
              have r0 := hR.cell (i := k) (by omega)
              have r1 := hR.cell (i := k + 1) (by omega)
              generalize hp0 : f k = p at hbd0 HNX p0
              generalize hp1 : f (k + 1) = q at hbd1 HNX p1
              generalize hp2 : g k = r at hbd2 HNX r0
              have HP1 := hid hp1
              have HP2 := hid hp2
              clear hp0 hp1 hp2 HF0 HF1 HG0
              have hBd : Below wr.heap.size wr wr.drew := (Below.refl _ _).drew
              have hi0 : ((i : Int) + 1 == 0) = false := by simp; omega
              have hk0 : ((k : Int) + 1 == 0) = false := by simp; omega
              have hcall : ∀ W, SwapsAt W sa S → Calls Tryz.prog 58 #[.slice sa sn sc, .agg #[.int .u8 x1, .int .i64 x2], .agg #[.int .u8 y1, .int .i64 y2]] W fun e w' => e = .returned (.bool (mayM S (x1, x2) (y1, y2))) ∧ Below W.heap.size W w' :=
                fun W h => becomes_any S sn sc sa (x1, x2) (y1, y2) W HS.out hsn h
              cases hmay : mayM S (x1, x2) (y1, y2)
              all_goals
                rw [hmay] at hcall
                have HNX2 := HNX
                rw [hmay] at HNX2
                clear hmay HNX
                have j1 : (0 : Int) ≤ (i : Int) := by omega
                have j2 : (i : Int) < (n : Int) := by omega
                have j3 : (0 : Int) ≤ (k : Int) := by omega
                have j4 : (k : Int) < (m : Int) := by omega
                have j5 : IntKind.i64.wrap (i : Int) = (i : Int) := IntWalk.i64_in _ (by omega)
                have j6 : IntKind.i64.wrap (k : Int) = (k : Int) := IntWalk.i64_in _ (by omega)
                go_wp2_with fail
                go_region_held3 (fun w' : World => w'.cell? ⟨ab, aoff + i * 2, none⟩ = some (.int .u8 x1) ∧ w'.cell? ⟨ab, aoff + i * 2 + 1, none⟩ = some (.int .i64 x2) ∧ w'.cell? ⟨bb, boff + k * 2, none⟩ = some (.int .u8 y1) ∧ w'.cell? ⟨bb, boff + k * 2 + 1, none⟩ = some (.int .i64 y2)) (first | exact ⟨e1, e2, d1, d2⟩) (first | (go_at_call 58; replace e1 := cell_grown hBd e1; replace e2 := cell_grown hBd e2; replace d1 := cell_grown hBd d1; replace d2 := cell_grown hBd d2; refine (hcall _ (hSw.grown hBd)).mono ?_; rintro e w4 ⟨rfl, hb4⟩; have hb5 := hBd.trans (hb4.mono hBd.size); replace e1 := cell_grown hb4 e1; replace e2 := cell_grown hb4 e2; replace d1 := cell_grown hb4 d1; replace d2 := cell_grown hb4 d2))
                clear e1 e2 d1 d2 hb4 hBd hSw hcall ga gb
                have hT4 := hT.of_block (hb5.block _ ql)
                have hF4 := hF.of_block (hb5.block _ pl)
                have hR4 := hR.of_block (hb5.block _ rl)
                have hB4 := hB.trans (hb5.mono (by omega))
                replace q0 := cell_grown hb5 q0
                replace q1 := cell_grown hb5 q1
                replace p0 := cell_grown hb5 p0
                replace p1 := cell_grown hb5 p1
                replace r0 := cell_grown hb5 r0
                replace r1 := cell_grown hb5 r1
                have sl := hb5.size
                have rf4 := hR4.frozen (k + 1)
                have l0 := lt_of_cell q0
                have l1 := lt_of_cell p0
                have l2 := lt_of_cell r0
                clear hb5 hT hF hR hB rf rl pl ql sl
                go_wp2_with fail
                have o1 : IntKind.i64.wrap (q + 1) = q + 1 := IntWalk.i64_in _ (by omega)
                have o2 : IntKind.i64.wrap (r + 1) = r + 1 := IntWalk.i64_in _ (by omega)
                have o3 : (0 : Int) ≤ (i : Int) + 1 := by omega
                have o4 : (i : Int) + 1 < (n : Int) + 1 := by omega
                have o5 : (i : Int) < (n : Int) + 1 := by omega
                have o6 : (0 : Int) ≤ (k : Int) + 1 := by omega
                have o7 : (k : Int) + 1 < (m : Int) + 1 := by omega
                have o8 : (k : Int) < (m : Int) + 1 := by omega
                have o9 : ((i : Int) + 1).toNat = i + 1 := by omega
                have o10 : ((k : Int) + 1).toNat = k + 1 := by omega
                have hkeep : ∀ v : Value, (w4.setCell ⟨rb2, k + 1, none⟩ v).drew.cell? ⟨tb, i, none⟩ = some (.slice (some ⟨rb, 0, none⟩) (m + 1) (m + 1)) ∧ (w4.setCell ⟨rb2, k + 1, none⟩ v).drew.cell? ⟨tb, i + 1, none⟩ = some (.slice (some ⟨rb2, 0, none⟩) (m + 1) (m + 1)) ∧ (w4.setCell ⟨rb2, k + 1, none⟩ v).drew.cell? ⟨rb, k + 1, none⟩ = some (.int .i64 q) ∧ (w4.setCell ⟨rb2, k + 1, none⟩ v).drew.cell? ⟨rb2, k, none⟩ = some (.int .i64 r) := fun v => by
                  have a1 := (hT4.setOther (a := ⟨rb2, k + 1, none⟩) (by show tb ≠ rb2; omega) v).drew
                  have a2 := (hF4.setOther (a := ⟨rb2, k + 1, none⟩) (by show rb ≠ rb2; exact hrb2) v).drew
                  have a3 := (hR4.set (k + 1) v).drew
                  refine ⟨?_, ?_, ?_, ?_⟩
                  · rw [← HUF.out]; exact a1.cell (by omega)
                  · rw [← HUI.out]; exact a1.cell (by omega)
                  · rw [← HP1.out]; exact a2.cell (by omega)
                  · have := a3.cell (i := k) (by omega)
                    rw [← HP2.out]
                    simpa using this
                have HKE := hid hkeep
                clear hkeep
                have hend4 : ∀ z : Int, (w4.setCell ⟨rb2, k + 1, none⟩ (.int .i64 z)).drew.rowIs tb 71 (n + 1) U ∧ (w4.setCell ⟨rb2, k + 1, none⟩ (.int .i64 z)).drew.rowIs rb 3 (m + 1) (fun j => .int .i64 (f j)) ∧ (w4.setCell ⟨rb2, k + 1, none⟩ (.int .i64 z)).drew.rowIs rb2 3 (m + 1) (fun j => .int .i64 (if j = k + 1 then z else g j)) ∧ Below tb w (w4.setCell ⟨rb2, k + 1, none⟩ (.int .i64 z)).drew := fun z =>
                  ⟨hT4.setOther (a := ⟨rb2, k + 1, none⟩) (by show tb ≠ rb2; omega) _, hF4.setOther (a := ⟨rb2, k + 1, none⟩) (by show rb ≠ rb2; exact hrb2) _,
                    ((hR4.set (k + 1) _).congr (g := fun j => .int .i64 (if j = k + 1 then z else g j)) (fun j _ => by by_cases e : j = k + 1 <;> simp [e])).drew, (hB4.setCell (p := ⟨rb2, k + 1, none⟩) (by show tb ≤ rb2; omega) _).drew⟩
                have HE4 := hid hend4
                clear hend4
                go_region_held3 (fun w' : World => w'.cell? ⟨tb, i, none⟩ = some (.slice (some ⟨rb, 0, none⟩) (m + 1) (m + 1)) ∧ w'.cell? ⟨tb, i + 1, none⟩ = some (.slice (some ⟨rb2, 0, none⟩) (m + 1) (m + 1)) ∧ w'.cell? ⟨rb, k + 1, none⟩ = some (.int .i64 q) ∧ w'.cell? ⟨rb2, k, none⟩ = some (.int .i64 r)) (first | exact HKE.out _ | go_keep) (fail)
                clear j1 j2 j3 j4 j5 j6 o1 o2 o3 o4 o5 o6 o7 o8 o9 o10 q0 q1 p0 p1 r0 r1
                go_wp2
                go_roundw
                case rel => exact ⟨k + 1 + 1, _, by omega, by go_num, (HE4.out _).1, (HE4.out _).2.1, (HE4.out _).2.2.1, (HE4.out _).2.2.2, hid (fun j hj => by
                  by_cases e : j = k + 1
                  · subst e
                    simp only [if_true]
                    rw [HNX2.out]
                    first
                      | (simp only [if_true]; split <;> split <;> omega)
                      | (split <;> split <;> omega)
                      | (simp; split <;> split <;> omega)
                  · simp only [e, if_false]
                    exact HG.out j (by omega))⟩
                case measure => simp [intOf]; omega
          · have hlk' : ¬ (k : Int) ≤ (m : Int) := by omega
            have HP := HEND.out wr g hR (fun j hj => HG.out j (by omega))
            go_wp2
            go_roundw
            case rel => exact ⟨i + 1 + 1, U, by omega, by go_num, hT, hB, hid HP⟩
            case measure => simp [intOf]; omega
    · have hlt' : ¬ (i : Int) ≤ (n : Int) := by omega
      have hin : i = n + 1 := by omega
      subst hin
      obtain ⟨rb, f, h1, h2, h3, h5, h4⟩ := HR.out
      have q0 := hT.cell (i := n) (by omega)
      rw [h1] at q0
      have q1 : wr.cell? ⟨rb, m, none⟩ = some (.int .i64 (f m)) := h2.cell (by omega)
      have e1 : f m = troubleM S A B := by rw [h4 m (Nat.le_refl _), troubleM, HA.out, HB.out]
      rw [e1] at q1
      have ql := h2.lt
      clear HR h1 h2 h3 h4 h5 e1 hT
      go_wp2
      go_ret
      exact ⟨rfl, by rw [HTB.out]; exact hB⟩

end Go.Proofs.YtbampfkmgjfofaaGreatDoor
