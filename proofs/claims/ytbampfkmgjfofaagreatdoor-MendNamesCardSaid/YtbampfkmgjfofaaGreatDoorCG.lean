/- Mend, the laws: whether there is little enough, and right, to be decided: Few, RightReport, wrong, ready. -/
import Derived.Test.YtbampfkmgjfofaaGreatDoorCD
import Derived.Test.YtbampfkmgjfofaaGreatDoorBI
namespace Go.Proofs.YtbampfkmgjfofaaGreatDoor
open Go.RowKit

/-- Are there few words and requests? -/
def fewM (R : List (Tx × Int)) (L : List Req) : Bool :=
  (R.all fun n => decide (n.1.size ≤ 40)) && ((L.all fun q => shortM q.put 12) && (decide (R.length ≤ 85) && decide (L.length ≤ 25)))

theorem all_getD {α : Type} {L : List α} {f : α → Bool} {k : Nat} (d : α) (hk : k < L.length) (h : f (L.getD k d) = false) : L.all f = false := by
  rw [List.all_eq_false]
  refine ⟨L.getD k d, ?_, by rw [h]; simp⟩
  rw [List.getD_eq_getElem?_getD, List.getElem?_eq_getElem hk, Option.getD_some]
  exact List.getElem_mem _

theorem all_upto {α : Type} {L : List α} {f : α → Bool} {n : Nat} (d : α) (hL : L.length = n) (h : ∀ j, j < n → f (L.getD j d) = true) : L.all f = true := by
  subst hL
  rw [← allN_list L d f]
  exact (allN_of _ _).2 h

theorem fewM_word {R : List (Tx × Int)} {L : List Req} {k : Nat} (hk : k < R.length) (h : ¬ (R.getD k (.empty, 0)).1.size ≤ 40) : fewM R L = false := by
  unfold fewM
  rw [all_getD (f := fun n : Tx × Int => decide (n.1.size ≤ 40)) (.empty, 0) hk (by simpa using h)]
  rfl

theorem fewM_req {R : List (Tx × Int)} {L : List Req} {k : Nat} (hk : k < L.length) (h : shortM (L.getD k default).put 12 = false) : fewM R L = false := by
  unfold fewM
  rw [all_getD (f := fun q : Req => shortM q.put 12) default hk h]
  simp

theorem fewM_rest {R : List (Tx × Int)} {L : List Req} {a b : Nat} (ha : ∀ j, j < a → (R.getD j (.empty, 0)).1.size ≤ 40) (hb : ∀ j, j < b → shortM (L.getD j default).put 12 = true) (h1 : a = R.length ∨ 85 < R.length) (h2 : b = L.length ∨ 25 < L.length) :
    fewM R L = (decide (R.length ≤ 85) && decide (L.length ≤ 25)) := by
  unfold fewM
  by_cases k1 : R.length ≤ 85
  · rw [all_upto (f := fun n : Tx × Int => decide (n.1.size ≤ 40)) (.empty, 0) rfl (fun i hi => by simpa using ha i (by omega))]
    by_cases k2 : L.length ≤ 25
    · rw [all_upto (f := fun q : Req => shortM q.put 12) default rfl (fun i hi => hb i (by omega)), Bool.true_and, Bool.true_and]
    · simp [k2]
  · simp [k1]

set_option maxRecDepth 100000 in
set_option maxHeartbeats 4000000 in
theorem few_any (R : List (Tx × Int)) (out win : Int) (n cap : Nat) (a : Option Addr) (L : List Req) (m mc : Nat) (ra : Option Addr) (w : World) (hR : R.length = n) (hn : n ≤ maxLen) (hS : Nums w a R) (hL : L.length = m) (hm : m ≤ maxLen) (hQ : ReqsAt w ra L) :
    Calls Tryz.prog 30 #[.agg #[.slice a n cap, .int .i64 out, .int .i64 win], .slice ra m mc] w fun e w' => e = .returned (.bool (fewM R L)) ∧ Below w.heap.size w w' := by
  unfold maxLen at hn hm
  obtain ⟨z, hz⟩ : ∃ z, fewM R L = z := ⟨_, rfl⟩
  rw [hz]
  have HZ := hid hz
  have HR := hid hR
  have HL := hid hL
  clear hz hR hL
  obtain ⟨W0, hW0⟩ : ∃ W, W = w.alloc (.cells #[.slice a n cap, .int .i64 out, .int .i64 win] 56) := ⟨_, rfl⟩
  have hB0 : Below w.heap.size w W0 := by rw [hW0]; exact below_alloc w _
  have r0 : W0.cell? ⟨w.heap.size, 0, none⟩ = some (.slice a n cap) := by rw [hW0]; simp [go_sem]
  have rl := lt_of_cell r0
  have hS0 := hS.grown hB0
  have hQ0 := hQ.grown hB0
  clear hS hQ
  go_enter Tryz.func30, Tryz.ntmps30
  go_wp2_with fail
  rw [← hW0]
  clear hW0
  go_loopw [5] (fun i wr => ∃ k : Nat, k ≤ n ∧ k ≤ 86 ∧ i = .int .i64 k ∧ Hid (∀ j, j < k → (R.getD j (.empty, 0)).1.size ≤ 40) ∧ wr = W0) (fun i _ => 86 - (intOf i).toNat)
  case atStart => exact ⟨0, Nat.zero_le _, by omega, rfl, hid (fun j h => by omega), rfl⟩
  case round =>
    obtain ⟨k, hk, hk86, rfl, HF, hww⟩ := hrel
    rw [hww]
    clear hww
    clear wr
    by_cases hlt : k < n ∧ k < 86
    · have hlt1 : (k : Int) < (n : Int) := by omega
      have hlt2 : (k : Int) < 86 := by omega
      obtain ⟨b, off, rfl, e0, e1⟩ := hS0 k (by rw [HR.out]; exact hlt.1)
      obtain ⟨x, hx⟩ : ∃ x, R.getD k (.empty, 0) = x := ⟨_, rfl⟩
      rw [hx] at e0 e1
      have HX := hid hx
      clear hx
      obtain ⟨x1, x2⟩ := x
      simp only at e0 e1
      have gb := lt_of_cell e0
      by_cases h40 : x1.size ≤ 40
      · have h40' : ¬ (40 : Int) < (x1.size : Int) := by omega
        have H40 := hid h40
        have HLT := hid hlt
        clear h40 hlt
        go_wp2
        go_roundw
        case rel => exact ⟨k + 1, by have := HLT.out; omega, by have := HLT.out; omega, by go_num, hid (fun j hj => by
          by_cases e : j = k
          · subst e; rw [HX.out]; exact H40.out
          · exact HF.out j (by omega)), by first | rfl | trivial⟩
        case measure => have := HLT.out; simp [intOf]; omega
      · have h40' : (40 : Int) < (x1.size : Int) := by omega
        have hzf : z = false := by rw [← HZ.out]; exact fewM_word (k := k) (by rw [HR.out]; exact hlt.1) (by rw [HX.out]; exact h40)
        clear h40 hlt
        go_wp2
        go_ret
        exact ⟨by first | rfl | (rw [hzf]; rfl), hB0⟩
    · have hc2 : ((k : Int) < (n : Int) ∧ ¬ (k : Int) < 86) ∨ ¬ (k : Int) < (n : Int) := by omega
      have HK1 : Hid (k = n ∨ 85 < n) := hid (by omega)
      clear hlt
      rcases hc2 with ⟨g1, g2⟩ | g1
      all_goals
        go_wp2_with fail
        go_loopw [6] (fun i wr => ∃ k2 : Nat, k2 ≤ m ∧ k2 ≤ 26 ∧ i = .int .i64 k2 ∧ Hid (∀ j, j < k2 → shortM (L.getD j default).put 12 = true) ∧ Below W0.heap.size W0 wr) (fun i _ => 26 - (intOf i).toNat)
        case atStart => exact ⟨0, Nat.zero_le _, by omega, rfl, hid (fun j h => by omega), Below.refl _ _⟩
        case round =>
          obtain ⟨k2, hk2n, hk246, rfl, HG, hb⟩ := hrel
          by_cases hlt2 : k2 < m ∧ k2 < 26
          · have hlt1 : (k2 : Int) < (m : Int) := by omega
            have hlt3 : (k2 : Int) < 26 := by omega
            obtain ⟨b, off, pa, pc, rfl, e0, e1, e2, e3, e4, e5, e6⟩ := (hQ0.grown hb) k2 (by rw [HL.out]; exact hlt2.1)
            obtain ⟨N, hx⟩ : ∃ N, (L.getD k2 default).put = N := ⟨_, rfl⟩
            rw [hx] at e4 e5 e6
            have HX := hid hx
            clear hx e0 e1 e2 e3
            obtain ⟨nl, hnl⟩ : ∃ n, N.length = n := ⟨_, rfl⟩
            rw [hnl] at e4 e5
            have gb := lt_of_cell e4
            have hcall := short_any N 12 nl pc pa wr hnl e5 e6
            clear hnl e6 e5
            cases hs : shortM N 12
            · have hzf : z = false := by rw [← HZ.out]; exact fewM_req (k := k2) (by rw [HL.out]; exact hlt2.1) (by rw [HX.out]; exact hs)
              rw [hs] at hcall
              clear hs hlt2
              go_wp2_with (go_at_call 16; refine hcall.mono ?_; rintro e w' ⟨rfl, hb'⟩)
              go_ret
              exact ⟨by first | rfl | (rw [hzf]; rfl), below_then (below_then hB0 hb) hb'⟩
            · have HS := hid hs
              have HLT := hid hlt2
              rw [hs] at hcall
              clear hs hlt2
              go_wp2_with (go_at_call 16; refine hcall.mono ?_; rintro e w' ⟨rfl, hb'⟩)
              go_roundw
              case rel => exact ⟨k2 + 1, by have := HLT.out; omega, by have := HLT.out; omega, by go_num, hid (fun j hj => by
                by_cases e : j = k2
                · subst e; rw [HX.out]; exact HS.out
                · exact HG.out j (by omega)), below_then hb hb'⟩
              case measure => have := HLT.out; simp [intOf]; omega
          · have hc3 : ((k2 : Int) < (m : Int) ∧ ¬ (k2 : Int) < 26) ∨ ¬ (k2 : Int) < (m : Int) := by omega
            have hk2 : k2 = m ∨ 25 < m := by omega
            have HV : Hid (z = (decide (n ≤ 85) && decide (m ≤ 25))) := hid (by rw [← HZ.out, fewM_rest HF.out HG.out (by rw [HR.out]; exact HK1.out) (by rw [HL.out]; exact hk2), HR.out, HL.out])
            clear HZ HF HG hk2 hlt2
            have s0 := cell_grown hb r0
            have sl := lt_of_cell s0
            have hB2 := below_then hB0 hb
            rcases hc3 with ⟨g3, g4⟩ | g3
            all_goals
              by_cases m1 : n ≤ 85
              · by_cases m2 : m ≤ 25
                · first
                  | (exfalso; omega)
                  | (have m1' : (n : Int) ≤ 85 := by omega
                     have m2' : (m : Int) ≤ 25 := by omega
                     have hzt : z = true := by rw [HV.out]; simp [m1, m2]
                     clear m1 m2
                     go_wp2
                     go_ret
                     exact ⟨by first | rfl | (rw [hzt]; rfl), hB2⟩)
                · first
                  | (exfalso; omega)
                  | (have m1' : (n : Int) ≤ 85 := by omega
                     have m2' : ¬ (m : Int) ≤ 25 := by omega
                     have hzt : z = false := by rw [HV.out]; simp [m2]
                     clear m1 m2
                     go_wp2
                     go_ret
                     exact ⟨by first | rfl | (rw [hzt]; rfl) | (show Ending.returned (Value.bool (decide ((m : Int) ≤ 25))) = _; rw [decide_eq_false (by omega), hzt]), hB2⟩)
              · have m1' : ¬ (n : Int) ≤ 85 := by omega
                have hzt : z = false := by rw [HV.out]; simp [m1]
                clear m1
                go_wp2
                go_ret
                exact ⟨by first | rfl | (rw [hzt]; rfl), hB2⟩

set_option maxRecDepth 100000 in
set_option maxHeartbeats 4000000 in
theorem rightReport_any (R : List (Tx × Int)) (out win : Int) (n cap : Nat) (a : Option Addr) (w : World) (hR : R.length = n) (hn : n ≤ 1000) (hS : Nums w a R) (hs : ∀ x ∈ R, x.1.size ≤ 1000) :
    Calls Tryz.prog 35 #[.agg #[.slice a n cap, .int .i64 out, .int .i64 win]] w fun e w' => e = .returned (.bool (reportOk R out win)) ∧ Below w.heap.size w w' := by
  obtain ⟨z, hz⟩ : ∃ z, reportOk R out win = z := ⟨_, rfl⟩
  rw [hz]
  have HZ : Hid ((decide (n ≤ 80) && (R.all saidOk && (inB out 0 100000 && inB win 0 100000))) = z) := hid (by rw [← hz, reportOk, hR])
  have HR := hid hR
  clear hz hR
  obtain ⟨W0, hW0⟩ : ∃ W, W = w.alloc (.cells #[.slice a n cap, .int .i64 out, .int .i64 win] 56) := ⟨_, rfl⟩
  have hB0 : Below w.heap.size w W0 := by rw [hW0]; exact below_alloc w _
  have r0 : W0.cell? ⟨w.heap.size, 0, none⟩ = some (.slice a n cap) := by rw [hW0]; simp [go_sem]
  have r1 : W0.cell? ⟨w.heap.size, 1, none⟩ = some (.int .i64 out) := by rw [hW0]; simp [go_sem]
  have r2 : W0.cell? ⟨w.heap.size, 2, none⟩ = some (.int .i64 win) := by rw [hW0]; simp [go_sem]
  have hS0 := hS.grown hB0
  clear hS
  go_enter Tryz.func35, Tryz.ntmps35
  go_wp2_with fail
  rw [← hW0]
  clear hW0
  go_loopw [3] (fun i wr => ∃ k : Nat, k ≤ n ∧ i = .int .i64 k ∧ Hid (∀ j, j < k → saidOk (R.getD j (.empty, 0)) = true) ∧ Below W0.heap.size W0 wr) (fun i _ => n - (intOf i).toNat)
  case atStart => exact ⟨0, Nat.zero_le _, rfl, hid (fun j h => by omega), Below.refl _ _⟩
  case round =>
    obtain ⟨k, hk, rfl, HF, hb⟩ := hrel
    have s0 := cell_grown hb r0
    have s1 := cell_grown hb r1
    have s2 := cell_grown hb r2
    have sl := lt_of_cell s0
    have hBw := below_then hB0 hb
    by_cases hlt : k < n
    · have hlt' : (k : Int) < (n : Int) := by omega
      obtain ⟨b, off, rfl, e0, e1⟩ := (hS0.grown hb) k (by rw [HR.out]; exact hlt)
      obtain ⟨x, hx⟩ : ∃ x, R.getD k (.empty, 0) = x := ⟨_, rfl⟩
      have hsz : (R.getD k (.empty, 0)).1.size ≤ 1000 := hs _ (by
        rw [List.getD_eq_getElem?_getD, List.getElem?_eq_getElem (by rw [HR.out]; exact hlt), Option.getD_some]
        exact List.getElem_mem _)
      rw [hx] at e0 e1 hsz
      have HX := hid hx
      clear hx
      obtain ⟨x1, x2⟩ := x
      simp only at e0 e1 hsz
      have gb := lt_of_cell e0
      have hbad : saidOk (x1, x2) = false → z = false := fun h => by
        rw [← HZ.out, all_getD (f := saidOk) (.empty, 0) (by rw [HR.out]; exact hlt) (by rw [HX.out]; exact h)]
        simp
      have HBAD := hid hbad
      clear hbad
      have hcall := refText_any x1 wr hsz
      cases ht : textOk x1
      · have hzf : z = false := HBAD.out (by simp [saidOk, ht])
        rw [ht] at hcall
        clear ht hlt
        go_wp2_with (go_at_call 54; refine hcall.mono ?_; rintro e w' ⟨rfl, hb'⟩)
        go_ret
        exact ⟨by first | rfl | (rw [hzf]; rfl), below_then hBw hb'⟩
      · rw [ht] at hcall
        cases hy : inB x2 0 999
        · have hzf : z = false := HBAD.out (by simp [saidOk, memberOk, ht, hy])
          clear ht hlt
          go_wp2_with (first | (go_at_call 54; refine hcall.mono ?_; rintro e w' ⟨rfl, hb'⟩; replace e0 := cell_grown hb' e0; replace e1 := cell_grown hb' e1; replace s0 := cell_grown hb' s0; have gb2 := lt_of_cell e1; have sl2 := lt_of_cell s0) | (go_at_call 49; refine (rin_any _ _ _ _).mono ?_; rintro e w'' ⟨rfl, rfl⟩; rw [hy]))
          go_ret
          exact ⟨by first | rfl | (rw [hzf]; rfl), below_then hBw hb'⟩
        · have HO : Hid (saidOk (R.getD k (.empty, 0)) = true) := hid (by rw [HX.out]; simp [saidOk, memberOk, ht, hy])
          have HLT := hid hlt
          clear ht hlt
          go_wp2_with (first | (go_at_call 54; refine hcall.mono ?_; rintro e w' ⟨rfl, hb'⟩; replace e0 := cell_grown hb' e0; replace e1 := cell_grown hb' e1; replace s0 := cell_grown hb' s0; have gb2 := lt_of_cell e1; have sl2 := lt_of_cell s0) | (go_at_call 49; refine (rin_any _ _ _ _).mono ?_; rintro e w'' ⟨rfl, rfl⟩; rw [hy]))
          go_roundw
          case rel => exact ⟨k + 1, by have := HLT.out; omega, by go_num, hid (fun j hj => by
            by_cases e : j = k
            · subst e; exact HO.out
            · exact HF.out j (by omega)), below_then hb hb'⟩
          case measure => have := HLT.out; simp [intOf]; omega
    · have hlt' : ¬ (k : Int) < (n : Int) := by omega
      have HV : Hid ((decide (n ≤ 80) && (inB out 0 100000 && inB win 0 100000)) = z) := hid (by
        rw [← HZ.out, all_upto (f := saidOk) (.empty, 0) HR.out (fun j hj => HF.out j (by omega)), Bool.true_and])
      clear HZ HF hlt
      by_cases m1 : n ≤ 80
      · have m1' : (n : Int) ≤ 80 := by omega
        cases ho : inB out 0 100000
        · have hzf : z = false := by rw [← HV.out, ho]; simp
          clear m1
          go_wp2_with (go_at_call 49; refine (rin_any _ _ _ _).mono ?_; rintro e w'' ⟨rfl, rfl⟩; rw [ho])
          go_ret
          exact ⟨by first | rfl | (rw [hzf]; rfl), hBw⟩
        · have hzf : inB win 0 100000 = z := by rw [← HV.out, ho]; simp [m1]
          clear m1
          go_wp2_with (first | (go_at_call_has 49 out; refine (rin_any _ _ _ _).mono ?_; rintro e w'' ⟨rfl, rfl⟩; rw [ho]) | (go_at_call_has 49 win; refine (rin_any _ _ _ _).mono ?_; rintro e w'' ⟨rfl, rfl⟩; rw [hzf]))
          go_ret
          exact ⟨by first | rfl | (rw [hzf]; rfl), hBw⟩
      · have m1' : ¬ (n : Int) ≤ 80 := by omega
        have hzf : z = false := by rw [← HV.out]; simp [m1]
        clear m1
        go_wp2
        go_ret
        exact ⟨by first | rfl | (rw [hzf]; rfl), hBw⟩

end Go.Proofs.YtbampfkmgjfofaaGreatDoor
