/- Mend, the laws: whether a lexicon is thin: Thin. Mend, the laws: the error of a lexicon by the reference: LexiconFault. Mend, the laws: the walk of LexiconFault. Mend, the laws: the errors of lists and of swaps by the reference; swaps in new memory. -/
import Derived.Test.YtbampfkmgjfofaaGreatDoorBO
import Derived.Test.YtbampfkmgjfofaaGreatDoorBP
namespace Go.Proofs.YtbampfkmgjfofaaGreatDoor
open Go.RowKit

/-- Is a lexicon thin, and are there few swaps? -/
def thinM (l : Lex) (m : Nat) : Bool :=
  (l.nums.all fun n => decide (n.1.size ≤ 40)) && ((l.names.all fun N => shortM N 8) && (decide (l.nums.length ≤ 45) && (decide (l.names.length ≤ 45) && (shortM l.nots 45 && decide (m ≤ 25)))))

theorem thinM_num {l : Lex} {m k : Nat} (hk : k < l.nums.length) (h : ¬ (l.nums.getD k (.empty, 0)).1.size ≤ 40) : thinM l m = false := by
  unfold thinM
  rw [Bool.and_eq_false_iff]
  left
  rw [List.all_eq_false]
  refine ⟨l.nums.getD k (.empty, 0), ?_, by simpa using h⟩
  rw [List.getD_eq_getElem?_getD, List.getElem?_eq_getElem hk, Option.getD_some]
  exact List.getElem_mem _

theorem thinM_name {l : Lex} {m k : Nat} (hk : k < l.names.length) (h : shortM (l.names.getD k []) 8 = false) : thinM l m = false := by
  unfold thinM
  rw [Bool.and_eq_false_iff]
  right
  rw [Bool.and_eq_false_iff]
  left
  rw [List.all_eq_false]
  refine ⟨l.names.getD k [], ?_, by rw [h]; simp⟩
  rw [List.getD_eq_getElem?_getD, List.getElem?_eq_getElem hk, Option.getD_some]
  exact List.getElem_mem _

theorem thinM_rest {l : Lex} {m a b : Nat} (ha : ∀ j, j < a → (l.nums.getD j (.empty, 0)).1.size ≤ 40) (hb : ∀ j, j < b → shortM (l.names.getD j []) 8 = true) (h1 : a = l.nums.length ∨ 45 < l.nums.length) (h2 : b = l.names.length ∨ 45 < l.names.length) :
    thinM l m = (decide (l.nums.length ≤ 45) && (decide (l.names.length ≤ 45) && (shortM l.nots 45 && decide (m ≤ 25)))) := by
  unfold thinM
  by_cases k1 : l.nums.length ≤ 45
  · have e1 : (l.nums.all fun n => decide (n.1.size ≤ 40)) = true := by
      rw [← allN_list l.nums (.empty, 0) (fun n => decide (n.1.size ≤ 40))]
      exact (allN_of _ _).2 (fun i hi => by simpa using ha i (by omega))
    by_cases k2 : l.names.length ≤ 45
    · have e2 : (l.names.all fun N => shortM N 8) = true := by
        rw [← allN_list l.names [] (fun N => shortM N 8)]
        exact (allN_of _ _).2 (fun i hi => hb i (by omega))
      rw [e1, e2, Bool.true_and, Bool.true_and]
    · simp [k2]
  · simp [k1]

set_option maxRecDepth 100000 in
set_option maxHeartbeats 4000000 in
theorem thin_any (l : Lex) (a1 a2 a3 sa : Option Addr) (n1 n2 n3 c1 c2 c3 m sc : Nat) (w : World) (h1 : l.nums.length = n1) (h2 : l.names.length = n2) (h3 : l.nots.length = n3) (hL : LexAt w a1 a2 a3 l) :
    Calls Tryz.prog 15 #[.agg #[.slice a1 n1 c1, .slice a2 n2 c2, .slice a3 n3 c3], .slice sa m sc] w fun e w' => e = .returned (.bool (thinM l m)) ∧ Below w.heap.size w w' := by
  have hm1 := hL.n1
  have hm2 := hL.n2
  have hm3 := hL.n3
  rw [h1] at hm1
  rw [h2] at hm2
  rw [h3] at hm3
  unfold maxLen at hm1 hm2
  obtain ⟨z, hz⟩ : ∃ z, thinM l m = z := ⟨_, rfl⟩
  rw [hz]
  have HZ := hid hz
  have H1 := hid h1; have H2 := hid h2; have H3 := hid h3
  clear hz h1 h2 h3
  obtain ⟨W0, hW0⟩ : ∃ W, W = w.alloc (.cells #[.slice a1 n1 c1, .slice a2 n2 c2, .slice a3 n3 c3] 26) := ⟨_, rfl⟩
  have hB0 : Below w.heap.size w W0 := by rw [hW0]; exact below_alloc w _
  have r0 : W0.cell? ⟨w.heap.size, 0, none⟩ = some (.slice a1 n1 c1) := by rw [hW0]; simp [go_sem]
  have r1 : W0.cell? ⟨w.heap.size, 1, none⟩ = some (.slice a2 n2 c2) := by rw [hW0]; simp [go_sem]
  have r2 : W0.cell? ⟨w.heap.size, 2, none⟩ = some (.slice a3 n3 c3) := by rw [hW0]; simp [go_sem]
  have rl := lt_of_cell r0
  have hL0 := hL.grown hB0
  clear hL
  go_enter Tryz.func15, Tryz.ntmps15
  go_wp2_with fail
  rw [← hW0]
  clear hW0
  go_loopw [5] (fun i wr => ∃ k : Nat, k ≤ n1 ∧ k ≤ 46 ∧ i = .int .i64 k ∧ Hid (∀ j, j < k → (l.nums.getD j (.empty, 0)).1.size ≤ 40) ∧ wr = W0) (fun i _ => 46 - (intOf i).toNat)
  case atStart => exact ⟨0, Nat.zero_le _, by omega, rfl, hid (fun j h => by omega), rfl⟩
  case round =>
    obtain ⟨k, hk, hk46, rfl, HF, hww⟩ := hrel
    rw [hww]
    clear hww
    clear wr
    have run : ∀ (_ : k = n1 ∨ 45 < n1), True := fun _ => trivial
    clear run
    by_cases hlt : k < n1 ∧ k < 46
    · have hlt1 : (k : Int) < (n1 : Int) := by omega
      have hlt2 : (k : Int) < 46 := by omega
      obtain ⟨b, off, rfl, e0, e1⟩ := hL0.nums k (by rw [H1.out]; exact hlt.1)
      obtain ⟨x, hx⟩ : ∃ x, l.nums.getD k (.empty, 0) = x := ⟨_, rfl⟩
      rw [hx] at e0 e1
      have HX := hid hx
      clear hx
      obtain ⟨x1, x2⟩ := x
      simp only at e0 e1
      have gb := lt_of_cell e0
      by_cases h40 : x1.size ≤ 40
      · have h40' : ¬ (40 : Int) < (x1.size : Int) := by omega
        have H40 := hid h40
        have HLT := hid hlt
        clear h40 hlt
        go_wp2
        go_roundw
        case rel => exact ⟨k + 1, by have := HLT.out; omega, by have := HLT.out; omega, by go_num, hid (fun j hj => by
          by_cases e : j = k
          · subst e; rw [HX.out]; exact H40.out
          · exact HF.out j (by omega)), by first | rfl | trivial⟩
        case measure => have := HLT.out; simp [intOf]; omega
      · have h40' : (40 : Int) < (x1.size : Int) := by omega
        have hzf : z = false := by rw [← HZ.out]; exact thinM_num (k := k) (by rw [H1.out]; exact hlt.1) (by rw [HX.out]; exact h40)
        clear h40 hlt
        go_wp2
        go_ret
        exact ⟨by first | rfl | (rw [hzf]; rfl), hB0⟩
    · by_cases hltn : k < n1
      · have g1 : (k : Int) < (n1 : Int) := by omega
        have g2 : ¬ (k : Int) < 46 := by omega
        have HK1 : Hid (k = n1 ∨ 45 < n1) := hid (by omega)
        clear hlt hltn
        go_wp2_with fail
        go_loopw [6] (fun i wr => ∃ k2 : Nat, k2 ≤ n2 ∧ k2 ≤ 46 ∧ i = .int .i64 k2 ∧ Hid (∀ j, j < k2 → shortM (l.names.getD j []) 8 = true) ∧ Below W0.heap.size W0 wr) (fun i _ => 46 - (intOf i).toNat)
        case atStart => exact ⟨0, Nat.zero_le _, by omega, rfl, hid (fun j h => by omega), Below.refl _ _⟩
        case round =>
          obtain ⟨k2, hk2n, hk246, rfl, HG, hb⟩ := hrel
          have t1 := cell_grown hb r1
          have tl := lt_of_cell t1
          by_cases hlt2 : k2 < n2 ∧ k2 < 46
          · have hlt1 : (k2 : Int) < (n2 : Int) := by omega
            have hlt3 : (k2 : Int) < 46 := by omega
            obtain ⟨b, off, ai, ci, rfl, e0, e1, e2⟩ := (hL0.names.grown hb) k2 (by rw [H2.out]; exact hlt2.1)
            obtain ⟨N, hx⟩ : ∃ N, l.names.getD k2 [] = N := ⟨_, rfl⟩
            rw [hx] at e0 e1 e2
            have HX := hid hx
            clear hx
            obtain ⟨nl, hnl⟩ : ∃ n, N.length = n := ⟨_, rfl⟩
            rw [hnl] at e0 e1
            have gb := lt_of_cell e0
            have hcall := short_any N 8 nl ci ai wr hnl e1 e2
            clear hnl e2
            cases hs : shortM N 8
            · have hzf : z = false := by rw [← HZ.out]; exact thinM_name (k := k2) (by rw [H2.out]; exact hlt2.1) (by rw [HX.out]; exact hs)
              rw [hs] at hcall
              clear hs hlt2
              go_wp2_with (go_at_call 16; refine hcall.mono ?_; rintro e w' ⟨rfl, hb'⟩)
              go_ret
              exact ⟨by first | rfl | (rw [hzf]; rfl), below_then (below_then hB0 hb) hb'⟩
            · have HS := hid hs
              have HLT := hid hlt2
              rw [hs] at hcall
              clear hs hlt2
              go_wp2_with (go_at_call 16; refine hcall.mono ?_; rintro e w' ⟨rfl, hb'⟩)
              go_roundw
              case rel => exact ⟨k2 + 1, by have := HLT.out; omega, by have := HLT.out; omega, by go_num, hid (fun j hj => by
                by_cases e : j = k2
                · subst e; rw [HX.out]; exact HS.out
                · exact HG.out j (by omega)), below_then hb hb'⟩
              case measure => have := HLT.out; simp [intOf]; omega
          · by_cases hlt1 : k2 < n2
            · have g1 : (k2 : Int) < (n2 : Int) := by omega
              have g2 : ¬ (k2 : Int) < 46 := by omega
              have hk2 : k2 = n2 ∨ 45 < n2 := by omega
              clear hlt2 hlt1
              have HR : Hid (z = (decide (n1 ≤ 45) && (decide (n2 ≤ 45) && (shortM l.nots 45 && decide (m ≤ 25))))) := hid (by rw [← HZ.out, thinM_rest HF.out HG.out (by rw [H1.out]; exact HK1.out) (by rw [H2.out]; exact hk2), H1.out, H2.out])
              clear HZ HF HG hk2
              have s0 := cell_grown hb r0
              have s1 := cell_grown hb r1
              have s2 := cell_grown hb r2
              have sl := lt_of_cell s0
              have hB2 := below_then hB0 hb
              by_cases m1 : n1 ≤ 45
              · exfalso; omega
              · have m1' : ¬ (n1 : Int) ≤ 45 := by omega
                have hzf : z = false := by rw [HR.out]; simp [m1]
                clear m1
                go_wp2
                go_ret
                exact ⟨by first | rfl | (rw [hzf]; rfl), hB2⟩
            · have g1 : ¬ (k2 : Int) < (n2 : Int) := by omega
              have hk2 : k2 = n2 ∨ 45 < n2 := by omega
              clear hlt2 hlt1
              have HR : Hid (z = (decide (n1 ≤ 45) && (decide (n2 ≤ 45) && (shortM l.nots 45 && decide (m ≤ 25))))) := hid (by rw [← HZ.out, thinM_rest HF.out HG.out (by rw [H1.out]; exact HK1.out) (by rw [H2.out]; exact hk2), H1.out, H2.out])
              clear HZ HF HG hk2
              have s0 := cell_grown hb r0
              have s1 := cell_grown hb r1
              have s2 := cell_grown hb r2
              have sl := lt_of_cell s0
              have hB2 := below_then hB0 hb
              by_cases m1 : n1 ≤ 45
              · exfalso; omega
              · have m1' : ¬ (n1 : Int) ≤ 45 := by omega
                have hzf : z = false := by rw [HR.out]; simp [m1]
                clear m1
                go_wp2
                go_ret
                exact ⟨by first | rfl | (rw [hzf]; rfl), hB2⟩
      · have g1 : ¬ (k : Int) < (n1 : Int) := by omega
        have HK1 : Hid (k = n1 ∨ 45 < n1) := hid (by omega)
        clear hlt hltn
        go_wp2_with fail
        go_loopw [6] (fun i wr => ∃ k2 : Nat, k2 ≤ n2 ∧ k2 ≤ 46 ∧ i = .int .i64 k2 ∧ Hid (∀ j, j < k2 → shortM (l.names.getD j []) 8 = true) ∧ Below W0.heap.size W0 wr) (fun i _ => 46 - (intOf i).toNat)
        case atStart => exact ⟨0, Nat.zero_le _, by omega, rfl, hid (fun j h => by omega), Below.refl _ _⟩
        case round =>
          obtain ⟨k2, hk2n, hk246, rfl, HG, hb⟩ := hrel
          have t1 := cell_grown hb r1
          have tl := lt_of_cell t1
          by_cases hlt2 : k2 < n2 ∧ k2 < 46
          · have hlt1 : (k2 : Int) < (n2 : Int) := by omega
            have hlt3 : (k2 : Int) < 46 := by omega
            obtain ⟨b, off, ai, ci, rfl, e0, e1, e2⟩ := (hL0.names.grown hb) k2 (by rw [H2.out]; exact hlt2.1)
            obtain ⟨N, hx⟩ : ∃ N, l.names.getD k2 [] = N := ⟨_, rfl⟩
            rw [hx] at e0 e1 e2
            have HX := hid hx
            clear hx
            obtain ⟨nl, hnl⟩ : ∃ n, N.length = n := ⟨_, rfl⟩
            rw [hnl] at e0 e1
            have gb := lt_of_cell e0
            have hcall := short_any N 8 nl ci ai wr hnl e1 e2
            clear hnl e2
            cases hs : shortM N 8
            · have hzf : z = false := by rw [← HZ.out]; exact thinM_name (k := k2) (by rw [H2.out]; exact hlt2.1) (by rw [HX.out]; exact hs)
              rw [hs] at hcall
              clear hs hlt2
              go_wp2_with (go_at_call 16; refine hcall.mono ?_; rintro e w' ⟨rfl, hb'⟩)
              go_ret
              exact ⟨by first | rfl | (rw [hzf]; rfl), below_then (below_then hB0 hb) hb'⟩
            · have HS := hid hs
              have HLT := hid hlt2
              rw [hs] at hcall
              clear hs hlt2
              go_wp2_with (go_at_call 16; refine hcall.mono ?_; rintro e w' ⟨rfl, hb'⟩)
              go_roundw
              case rel => exact ⟨k2 + 1, by have := HLT.out; omega, by have := HLT.out; omega, by go_num, hid (fun j hj => by
                by_cases e : j = k2
                · subst e; rw [HX.out]; exact HS.out
                · exact HG.out j (by omega)), below_then hb hb'⟩
              case measure => have := HLT.out; simp [intOf]; omega
          · by_cases hlt1 : k2 < n2
            · have g1 : (k2 : Int) < (n2 : Int) := by omega
              have g2 : ¬ (k2 : Int) < 46 := by omega
              have hk2 : k2 = n2 ∨ 45 < n2 := by omega
              clear hlt2 hlt1
              have HR : Hid (z = (decide (n1 ≤ 45) && (decide (n2 ≤ 45) && (shortM l.nots 45 && decide (m ≤ 25))))) := hid (by rw [← HZ.out, thinM_rest HF.out HG.out (by rw [H1.out]; exact HK1.out) (by rw [H2.out]; exact hk2), H1.out, H2.out])
              clear HZ HF HG hk2
              have s0 := cell_grown hb r0
              have s1 := cell_grown hb r1
              have s2 := cell_grown hb r2
              have sl := lt_of_cell s0
              have hB2 := below_then hB0 hb
              by_cases m1 : n1 ≤ 45
              · have m1' : (n1 : Int) ≤ 45 := by omega
                by_cases m2 : n2 ≤ 45
                · exfalso; omega
                · have m2' : ¬ (n2 : Int) ≤ 45 := by omega
                  have hzf : z = false := by rw [HR.out]; simp [m2]
                  clear m1 m2
                  go_wp2
                  go_ret
                  exact ⟨by first | rfl | (rw [hzf]; rfl), hB2⟩
              · have m1' : ¬ (n1 : Int) ≤ 45 := by omega
                have hzf : z = false := by rw [HR.out]; simp [m1]
                clear m1
                go_wp2
                go_ret
                exact ⟨by first | rfl | (rw [hzf]; rfl), hB2⟩
            · have g1 : ¬ (k2 : Int) < (n2 : Int) := by omega
              have hk2 : k2 = n2 ∨ 45 < n2 := by omega
              clear hlt2 hlt1
              have HR : Hid (z = (decide (n1 ≤ 45) && (decide (n2 ≤ 45) && (shortM l.nots 45 && decide (m ≤ 25))))) := hid (by rw [← HZ.out, thinM_rest HF.out HG.out (by rw [H1.out]; exact HK1.out) (by rw [H2.out]; exact hk2), H1.out, H2.out])
              clear HZ HF HG hk2
              have s0 := cell_grown hb r0
              have s1 := cell_grown hb r1
              have s2 := cell_grown hb r2
              have sl := lt_of_cell s0
              have hB2 := below_then hB0 hb
              by_cases m1 : n1 ≤ 45
              · have m1' : (n1 : Int) ≤ 45 := by omega
                by_cases m2 : n2 ≤ 45
                · have m2' : (n2 : Int) ≤ 45 := by omega
                  have hcall := short_any l.nots 45 n3 c3 a3 wr H3.out hm3 (hL0.nots.grown hb)
                  cases hs : shortM l.nots 45
                  · have hzf : z = false := by rw [HR.out, hs]; simp
                    rw [hs] at hcall
                    clear hs m1 m2
                    go_wp2_with (go_at_call 16; refine hcall.mono ?_; rintro e w' ⟨rfl, hb'⟩)
                    go_ret
                    exact ⟨by first | rfl | (rw [hzf]; rfl), below_then hB2 hb'⟩
                  · have HZ4 : Hid (z = decide (m ≤ 25)) := hid (by rw [HR.out, hs]; simp [m1, m2])
                    rw [hs] at hcall
                    clear hs m1 m2
                    by_cases m3 : m ≤ 25
                    · have m3' : (m : Int) ≤ 25 := by omega
                      have hzt : z = true := by rw [HZ4.out]; simpa using m3
                      clear m3
                      go_wp2_with (go_at_call 16; refine hcall.mono ?_; rintro e w' ⟨rfl, hb'⟩)
                      go_ret
                      exact ⟨by first | rfl | (rw [hzt]; rfl), below_then hB2 hb'⟩
                    · have m3' : ¬ (m : Int) ≤ 25 := by omega
                      have hzf : z = false := by rw [HZ4.out]; simpa using m3
                      clear m3
                      go_wp2_with (go_at_call 16; refine hcall.mono ?_; rintro e w' ⟨rfl, hb'⟩)
                      go_ret
                      exact ⟨by first | rfl | (rw [hzf]; rfl) | (show Ending.returned (Value.bool (decide ((m : Int) ≤ 25))) = _; rw [decide_eq_false (by omega), hzf]), below_then hB2 hb'⟩
                · have m2' : ¬ (n2 : Int) ≤ 45 := by omega
                  have hzf : z = false := by rw [HR.out]; simp [m2]
                  clear m1 m2
                  go_wp2
                  go_ret
                  exact ⟨by first | rfl | (rw [hzf]; rfl), hB2⟩
              · have m1' : ¬ (n1 : Int) ≤ 45 := by omega
                have hzf : z = false := by rw [HR.out]; simp [m1]
                clear m1
                go_wp2
                go_ret
                exact ⟨by first | rfl | (rw [hzf]; rfl), hB2⟩

end Go.Proofs.YtbampfkmgjfofaaGreatDoor

namespace Go.Proofs.YtbampfkmgjfofaaGreatDoor
open Go.RowKit

/-- All texts of a lexicon. -/
def allTx (l : Lex) : List Tx := l.nums.map (·.1) ++ (l.names.flatten ++ l.nots)

theorem entsM_texts : ∀ (L : List (List Tx)) (k : Nat), (entsM k L).map (·.1) = L.flatten
  | [], _ => rfl
  | N :: r, k => by
    rw [entsM, List.map_append, entsM_texts r, List.flatten_cons]
    congr 1
    simp [entsI, Function.comp_def]

theorem entries_texts (l : Lex) : (entries l).map (·.1) = allTx l := by
  unfold entries allTx
  rw [List.map_append, List.map_append, entsM_texts]
  simp [entsN, entsT, Function.comp_def]

theorem lexErr_bad {l : Lex} (h : lexOk l = false) : lexErr l = 1 := by rw [lexErr, if_pos h]

theorem lexBad_num {l : Lex} {k : Nat} (hk : k < l.nums.length) (h : numOk (l.nums.getD k (.empty, 0)) = false) : lexErr l = 1 := by
  apply lexErr_bad
  unfold lexOk
  have : l.nums.all numOk = false := by
    rw [List.all_eq_false]
    refine ⟨l.nums.getD k (.empty, 0), ?_, by rw [h]; simp⟩
    rw [List.getD_eq_getElem?_getD, List.getElem?_eq_getElem hk, Option.getD_some]
    exact List.getElem_mem _
  rw [this]
  simp

theorem lexBad_name {l : Lex} {k : Nat} (hk : k < l.names.length) (h : nameOk (l.names.getD k []) = false) : lexErr l = 1 := by
  apply lexErr_bad
  unfold lexOk
  have : l.names.all nameOk = false := by
    rw [List.all_eq_false]
    refine ⟨l.names.getD k [], ?_, by rw [h]; simp⟩
    rw [List.getD_eq_getElem?_getD, List.getElem?_eq_getElem hk, Option.getD_some]
    exact List.getElem_mem _
  rw [this]
  simp

theorem lex_rest {l : Lex} (h1 : ∀ j, j < l.nums.length → numOk (l.nums.getD j (.empty, 0)) = true) (h2 : ∀ j, j < l.names.length → nameOk (l.names.getD j []) = true) :
    lexOk l = ((l.nots.all textOk && decide (l.nots.length ≤ 40)) && (decide (l.nums.length ≤ 40) && decide (l.names.length ≤ 40))) := by
  unfold lexOk lexFew
  have e1 : l.nums.all numOk = true := by
    rw [← allN_list l.nums (.empty, 0) numOk]
    exact (allN_of _ _).2 h1
  have e2 : l.names.all nameOk = true := by
    rw [← allN_list l.names [] nameOk]
    exact (allN_of _ _).2 h2
  rw [e1, e2]
  cases l.nots.all textOk <;> cases decide (l.nots.length ≤ 40) <;> cases decide (l.nums.length ≤ 40) <;> cases decide (l.names.length ≤ 40) <;> rfl

theorem twice_yes {l : Lex} (hok : lexOk l = true) {i k : Nat} (hi : i < (allTx l).length) (hk : k < i) (h : (allTx l).getD i .empty = (allTx l).getD k .empty) : lexErr l = 6 := by
  unfold lexErr
  rw [if_neg (by rw [hok]; simp), if_neg]
  unfold noTwice
  rw [decide_eq_true_eq, entries_texts]
  intro hnd
  rw [List.getD_eq_getElem?_getD, List.getD_eq_getElem?_getD, List.getElem?_eq_getElem hi, List.getElem?_eq_getElem (by omega)] at h
  have := List.pairwise_iff_getElem.1 hnd k i (by omega) hi hk
  exact this h.symm

theorem twice_no {l : Lex} (hok : lexOk l = true) (h : ∀ i, i < (allTx l).length → ∀ k, k < i → (allTx l).getD i .empty ≠ (allTx l).getD k .empty) : lexErr l = 0 := by
  unfold lexErr
  rw [if_neg (by rw [hok]; simp), if_pos]
  unfold noTwice
  rw [decide_eq_true_eq, entries_texts]
  refine List.pairwise_iff_getElem.2 (fun k i hk hi hki e => ?_)
  apply h i hi k hki
  rw [List.getD_eq_getElem?_getD, List.getD_eq_getElem?_getD, List.getElem?_eq_getElem hi, List.getElem?_eq_getElem hk, e]

theorem flatten_take {L : List (List Tx)} {k : Nat} (hk : k < L.length) : (L.take (k + 1)).flatten = (L.take k).flatten ++ L.getD k [] := by
  rw [take_next [] hk, List.flatten_append]
  simp

end Go.Proofs.YtbampfkmgjfofaaGreatDoor

namespace Go.Proofs.YtbampfkmgjfofaaGreatDoor
open Go.RowKit

set_option maxRecDepth 100000 in
set_option maxHeartbeats 8000000 in
theorem lexFault_any (l : Lex) (a1 a2 a3 : Option Addr) (n1 n2 n3 c1 c2 c3 : Nat) (w : World) (h1 : l.nums.length = n1) (h2 : l.names.length = n2) (h3 : l.nots.length = n3) (hn1 : n1 ≤ 1000) (hn2 : n2 ≤ 1000) (hn3 : n3 ≤ 1000)
    (hN : ∀ N ∈ l.names, N.length ≤ 8) (hs1 : ∀ x ∈ l.nums, x.1.size ≤ 1000) (hs2 : ∀ N ∈ l.names, ∀ t ∈ N, t.size ≤ 1000) (hs3 : ∀ t ∈ l.nots, t.size ≤ 1000) (hL : LexAt w a1 a2 a3 l) :
    Calls Tryz.prog 22 #[.agg #[.slice a1 n1 c1, .slice a2 n2 c2, .slice a3 n3 c3]] w fun e w' => e = .returned (.int .i64 (lexErr l)) ∧ Below w.heap.size w w' := by
  obtain ⟨z, hz⟩ : ∃ z, lexErr l = z := ⟨_, rfl⟩
  rw [hz]
  have HZ := hid hz
  have H1 := hid h1; have H2 := hid h2; have H3 := hid h3
  clear hz h1 h2 h3
  obtain ⟨W0, hW0⟩ : ∃ W, W = w.alloc (.cells #[.slice a1 n1 c1, .slice a2 n2 c2, .slice a3 n3 c3] 26) := ⟨_, rfl⟩
  have hB0 : Below w.heap.size w W0 := by rw [hW0]; exact below_alloc w _
  have r0 : W0.cell? ⟨w.heap.size, 0, none⟩ = some (.slice a1 n1 c1) := by rw [hW0]; simp [go_sem]
  have r1 : W0.cell? ⟨w.heap.size, 1, none⟩ = some (.slice a2 n2 c2) := by rw [hW0]; simp [go_sem]
  have r2 : W0.cell? ⟨w.heap.size, 2, none⟩ = some (.slice a3 n3 c3) := by rw [hW0]; simp [go_sem]
  have hL0 := hL.grown hB0
  clear hL
  obtain ⟨i0, hi, hz0, hz1, hz2⟩ := info_parts Tryz.info9
  go_enter Tryz.func22, Tryz.ntmps22
  go_wp2_with fail
  rw [← hW0]
  clear hW0
  go_loopw [3, 4] (fun v i wr => ∃ k : Nat, k ≤ n1 ∧ i = .int .i64 k ∧ Hid (∀ j, j < k → numOk (l.nums.getD j (.empty, 0)) = true) ∧ wr.ownsRow W0.heap.size 9 1 v k (flatV strC ((l.nums.take k).map (·.1))) ∧ Below W0.heap.size W0 wr) (fun _ i _ => n1 - (intOf i).toNat)
  case atStart => exact ⟨0, Nat.zero_le _, rfl, hid (fun j h => by omega), World.ownsRow_nil _ _ _ _, Below.refl _ _⟩
  case round =>
    obtain ⟨k, hk, rfl, HF, hown, hb⟩ := hrel
    have hz := hb.size
    have s0 := cell_grown hb r0
    have sl := lt_of_cell s0
    have hBw := below_then hB0 hb
    by_cases hlt : k < n1
    · have hlt' : (k : Int) < (n1 : Int) := by omega
      have hkl : k < l.nums.length := by rw [H1.out]; exact hlt
      obtain ⟨b, off, rfl, e0, e1⟩ := (hL0.nums.grown hb) k hkl
      have hmem : l.nums.getD k (.empty, 0) ∈ l.nums := by
        rw [List.getD_eq_getElem?_getD, List.getElem?_eq_getElem hkl, Option.getD_some]
        exact List.getElem_mem _
      have hsz := hs1 _ hmem
      have htk := take_next (L := l.nums) (k := k) (.empty, 0) hkl
      obtain ⟨x, hx⟩ : ∃ x, l.nums.getD k (.empty, 0) = x := ⟨_, rfl⟩
      rw [hx] at e0 e1 hsz htk
      have HX := hid hx
      have HTK := hid htk
      clear hx hmem htk
      obtain ⟨x1, x2⟩ := x
      simp only at e0 e1 hsz
      have gb := lt_of_cell e0
      have hcall := refText_any x1 wr hsz
      cases ht : textOk x1
      · have hzf : z = 1 := by rw [← HZ.out]; exact lexBad_num hkl (by rw [HX.out]; simp [numOk, ht])
        rw [ht] at hcall
        clear ht
        go_wp2_with (go_at_call 54; refine hcall.mono ?_; rintro e w' ⟨rfl, hb'⟩)
        go_ret
        exact ⟨by first | rfl | (rw [hzf]; rfl), below_then hBw hb'⟩
      · rw [ht] at hcall
        have HT := hid ht
        clear ht
        cases hv : valueOk x2
        · have hzf : z = 1 := by rw [← HZ.out]; exact lexBad_num hkl (by rw [HX.out]; simp [numOk, hv])
          go_wp2_with fail
          refine hcall.mono ?_
          rintro e w' ⟨rfl, hb'⟩
          replace s0 := cell_grown hb' s0
          replace e0 := cell_grown hb' e0
          replace e1 := cell_grown hb' e1
          have sl2 := lt_of_cell s0
          have hv' : inB x2 0 999999999 = false := hv
          clear hv
          go_wp2_with (go_at_call 49; refine (rin_any _ _ _ _).mono ?_; rintro e w' ⟨rfl, rfl⟩; rw [hv'])
          go_ret
          exact ⟨by first | rfl | (rw [hzf]; rfl), below_then hBw hb'⟩
        · have HV := hid hv
          go_wp2_with fail
          refine hcall.mono ?_
          rintro e w' ⟨rfl, hb'⟩
          replace s0 := cell_grown hb' s0
          replace e0 := cell_grown hb' e0
          replace e1 := cell_grown hb' e1
          have sl2 := lt_of_cell s0
          have gb2 := lt_of_cell e0
          have hv' : inB x2 0 999999999 = true := hv
          have hown2 := owns_below hb' hown
          have hbb := hb.trans (hb'.mono hz)
          have hz2' := hbb.size
          have HN := hid (cells_new w' #[.string x1] 9)
          clear hv
          go_wp2_with (first | (go_at_call 49; refine (rin_any _ _ _ _).mono ?_; rintro e w2 ⟨rfl, rfl⟩; rw [hv']) | (at_builtin; refine wpList_append_own _ rfl _ _ 24 rfl W0.heap.size 9 i0 (.string .empty) 1 16 Tryz.underlying24 hi hz0 hz1 hz2 rfl (by decide) _ _ _ rfl (hown2.alloc _) ⟨w'.heap.size, 0, none⟩ 1 1 [.string x1] rfl rfl HN.out (fun x hx => by simp at hx; subst hx; rfl) (by unfold maxLen; omega) (by omega) (by simp; omega) ?_; intro v' w5 hown' hgrow5 hnil5; have hb5 := below_of_grown hbb hown2 hgrow5 hz2'))
          go_roundw
          case rel => exact ⟨k + 1, by omega, by go_num, hid (fun j hj => by
            by_cases e : j = k
            · subst e; rw [HX.out, numOk, HT.out, HV.out]; rfl
            · exact HF.out j (by omega)), by rw [HTK.out, List.map_append, flatV_append]; exact hown', hb5⟩
          case measure => simp [intOf]; omega
    · have hkn1 : k = n1 := by omega
      subst hkn1
      have hfull : l.nums.take k = l.nums := List.take_of_length_le (by rw [H1.out]; omega)
      rw [hfull] at hown
      have HF1 := hid HF.out
      clear HF hfull hlt
      go_wp2_with fail
      go_loopw [3, 5] (fun v i wr => ∃ k2 m2 : Nat, k2 ≤ n2 ∧ i = .int .i64 k2 ∧ Hid (∀ j, j < k2 → nameOk (l.names.getD j []) = true) ∧ Hid (m2 = k + (l.names.take k2).flatten.length) ∧ m2 ≤ k + 8 * k2 ∧ wr.ownsRow W0.heap.size 9 1 v m2 (flatV strC (l.nums.map (·.1) ++ (l.names.take k2).flatten)) ∧ Below W0.heap.size W0 wr) (fun _ i _ => n2 - (intOf i).toNat)
      case atStart => exact ⟨0, k, Nat.zero_le _, rfl, hid (fun j h => by omega), hid (by simp), by omega, by simpa using hown, hb⟩
      clear hown hb hz s0 sl hBw
      case round =>
        obtain ⟨k2, m2, hk2, rfl, HG, HM, hm2, hown, hb⟩ := hrel
        have hz := hb.size
        have s1 := cell_grown hb r1
        have sl := lt_of_cell s1
        have hBw := below_then hB0 hb
        by_cases hlt : k2 < n2
        · have hlt' : (k2 : Int) < (n2 : Int) := by omega
          have hkl : k2 < l.names.length := by rw [H2.out]; exact hlt
          obtain ⟨b, off, ai, ci, rfl, e0, e1, e2⟩ := (hL0.names.grown hb) k2 hkl
          have hmem : l.names.getD k2 [] ∈ l.names := by
            rw [List.getD_eq_getElem?_getD, List.getElem?_eq_getElem hkl, Option.getD_some]
            exact List.getElem_mem _
          have hsz := hs2 _ hmem
          have hn8 := hN _ hmem
          have hft := flatten_take hkl
          obtain ⟨N, hx⟩ : ∃ x, l.names.getD k2 [] = x := ⟨_, rfl⟩
          rw [hx] at e0 e1 e2 hsz hn8 hft
          have HX := hid hx
          have HFT := hid hft
          clear hx hmem hft
          obtain ⟨nl, hnl⟩ : ∃ n, N.length = n := ⟨_, rfl⟩
          rw [hnl] at e0 e1 hn8
          have HNL := hid hnl
          have hcall := refTexts_any N 5 nl ci ai wr hnl e1 e2 hsz
          clear hnl
          have gb := lt_of_cell e0
          by_cases h0 : nl = 0
          · have h0' : ((nl : Int) == 0) = true := by simpa using h0
            have hzf : z = 1 := by rw [← HZ.out]; exact lexBad_name hkl (by rw [HX.out, nameOk, HNL.out, h0]; rfl)
            clear h0
            go_wp2
            go_ret
            exact ⟨by first | rfl | (rw [hzf]; rfl), hBw⟩
          · have h0' : ((nl : Int) == 0) = false := by simpa using h0
            cases ht : (N.all textOk && decide ((nl : Int) ≤ 5))
            · have hzf : z = 1 := by
                rw [← HZ.out]
                refine lexBad_name hkl ?_
                rw [HX.out, nameOk, HNL.out]
                rw [Bool.and_eq_false_iff] at ht ⊢
                rcases ht with h | h
                · exact .inr h
                · left
                  unfold inB
                  rw [decide_eq_false_iff_not] at h ⊢
                  omega
              rw [ht] at hcall
              clear ht h0
              go_wp2_with (go_at_call 55; refine hcall.mono ?_; rintro e w' ⟨rfl, hb'⟩)
              go_ret
              exact ⟨by first | rfl | (rw [hzf]; rfl), below_then hBw hb'⟩
            · have hok : nameOk N = true := by
                rw [nameOk, HNL.out]
                rw [Bool.and_eq_true, decide_eq_true_eq] at ht
                rw [ht.1, Bool.and_true]
                unfold inB
                rw [decide_eq_true_eq]
                omega
              have HOK := hid hok
              rw [ht] at hcall
              clear ht h0 hok
              go_wp2_with fail
              refine hcall.mono ?_
              rintro e w' ⟨rfl, hb'⟩
              replace s1 := cell_grown hb' s1
              replace e0 := cell_grown hb' e0
              have hstr := e2.grown hb'
              have sl2 := lt_of_cell s1
              have gb2 := lt_of_cell e0
              have hown2 := owns_below hb' hown
              have hbb := hb.trans (hb'.mono hz)
              have hz2' := hbb.size
              go_wp2_with (at_builtin; refine wpList_append_strs rfl _ _ 24 rfl W0.heap.size i0 Tryz.underlying24 hi hz0 hz1 hz2 _ m2 _ rfl hown2 ai nl ci N rfl HNL.out hstr (by omega) hz2' ?_; intro v' w5 hown' hg5; have hb5 := Below.grown hbb hg5 hz2' (fun j hj => (hown2.lt j hj).1))
              go_roundw
              case rel => exact ⟨k2 + 1, m2 + nl, by omega, by go_num, hid (fun j hj => by
                by_cases e : j = k2
                · subst e; rw [HX.out]; exact HOK.out
                · exact HG.out j (by omega)), hid (by rw [HFT.out, List.length_append, HM.out, HNL.out]; omega), by omega, by rw [HFT.out, ← List.append_assoc, flatV_append]; exact hown', hb5⟩
              case measure => simp [intOf]; omega
        · have hkn2 : k2 = n2 := by omega
          subst hkn2
          have hfull : l.names.take k2 = l.names := List.take_of_length_le (by rw [H2.out]; omega)
          rw [hfull] at hown
          have hlok := lex_rest (l := l) (by rw [H1.out]; exact HF1.out) (by rw [H2.out]; exact HG.out)
          rw [H1.out, H2.out, H3.out] at hlok
          have HLO := hid hlok
          clear hfull hlok HG HF1 hlt
          have s0 := cell_grown hb r0
          have s2 := cell_grown hb r2
          have hcall := refTexts_any l.nots 40 n3 c3 a3 wr H3.out (by unfold maxLen; omega) (hL0.nots.grown hb) hs3
          cases ht : (l.nots.all textOk && decide ((n3 : Int) ≤ 40))
          · have hzf : z = 1 := by
              rw [← HZ.out]
              apply lexErr_bad
              rw [HLO.out, Bool.and_eq_false_iff]
              left
              rw [Bool.and_eq_false_iff] at ht ⊢
              rcases ht with h | h
              · exact .inl h
              · right
                rw [decide_eq_false_iff_not] at h ⊢
                omega
            rw [ht] at hcall
            clear ht
            go_wp2_with (go_at_call 55; refine hcall.mono ?_; rintro e w' ⟨rfl, hb'⟩)
            go_ret
            exact ⟨by first | rfl | (rw [hzf]; rfl), below_then hBw hb'⟩
          · have HT : Hid ((l.nots.all textOk && decide (n3 ≤ 40)) = true) := hid (by
              rw [Bool.and_eq_true, decide_eq_true_eq] at ht
              rw [ht.1, Bool.true_and, decide_eq_true_eq]
              omega)
            rw [ht] at hcall
            clear ht
            by_cases h40 : k ≤ 40
            · have h40' : ¬ (40 : Int) < (k : Int) := by omega
              by_cases g40 : k2 ≤ 40
              · have g40' : ¬ (40 : Int) < (k2 : Int) := by omega
                have HOK : Hid (lexOk l = true) := hid (by rw [HLO.out, HT.out]; simp [h40, g40])
                clear HLO HT h40 g40
                go_wp2_with fail
                refine hcall.mono ?_
                rintro e w' ⟨rfl, hb'⟩
                replace s0 := cell_grown hb' s0
                replace s1 := cell_grown hb' s1
                replace s2 := cell_grown hb' s2
                have sl2 := lt_of_cell s0
                have hstr := (hL0.nots.grown hb).grown hb'
                have hown2 := owns_below hb' hown
                have hbb := hb.trans (hb'.mono hz)
                have hz2' := hbb.size
                go_wp2_with (at_builtin; refine wpList_append_strs rfl _ _ 24 rfl W0.heap.size i0 Tryz.underlying24 hi hz0 hz1 hz2 _ m2 _ rfl hown2 a3 n3 c3 l.nots rfl H3.out hstr (by omega) hz2' ?_; intro v' w5 hown' hg5; have hb5 := Below.grown hbb hg5 hz2' (fun j hj => (hown2.lt j hj).1))
                have hall : flatV strC (l.nums.map (·.1) ++ l.names.flatten) ++ flatV strC l.nots = flatV strC (allTx l) := by rw [← flatV_append, allTx, List.append_assoc]
                rw [hall] at hown'
                obtain ⟨va, vc, rfl⟩ := owns_shape hown'
                have hTl : (allTx l).length = m2 + n3 := by
                  unfold allTx
                  rw [List.length_append, List.length_append, List.length_map, H1.out, H3.out, HM.out, List.take_of_length_le (by rw [H2.out]; omega)]
                  omega
                have hTS : Strs w5 va (allTx l) := strs_of_ownsN hown' hTl
                have hBw5 : Below w.heap.size w w5 := below_then hB0 hb5
                have HTL := hid hTl
                obtain ⟨mm, hmm⟩ : ∃ mm, m2 + n3 = mm := ⟨_, rfl⟩
                rw [hmm] at HTL ⊢
                have hmb : mm ≤ 20000 := by omega
                clear hown' hown2 hown hTl hall hg5 hstr hbb hb5 hcall s0 s1 s2 sl sl2 hb' hz hz2' hBw hb HM hm2 hmm
                obtain ⟨W5, hW5⟩ : ∃ W, W = w5 := ⟨_, rfl⟩
                rw [← hW5] at hTS hBw5 ⊢
                clear hW5
                clear w5 w' wr
                go_loopw [6] (fun i wr => ∃ p : Nat, p ≤ mm ∧ i = .int .i64 p ∧ Hid (∀ a, a < p → ∀ b, b < a → (allTx l).getD a .empty ≠ (allTx l).getD b .empty) ∧ Below W5.heap.size W5 wr) (fun i _ => mm - (intOf i).toNat)
                case atStart => exact ⟨0, Nat.zero_le _, rfl, hid (fun a h => by omega), Below.refl _ _⟩
                case round =>
                  obtain ⟨p, hp, rfl, HP, hbp⟩ := hrel
                  by_cases hpm : p < mm
                  · have hpm' : (p : Int) < (mm : Int) := by omega
                    obtain ⟨W6, hW6⟩ : ∃ W, W = wr := ⟨_, rfl⟩
                    rw [← hW6] at hbp ⊢
                    clear hW6
                    clear wr
                    go_wp2_with fail
                    go_loopw [7] (fun i wr => ∃ q : Nat, q ≤ p ∧ i = .int .i64 q ∧ Hid (∀ b, b < q → (allTx l).getD p .empty ≠ (allTx l).getD b .empty) ∧ Below W6.heap.size W6 wr) (fun i _ => p - (intOf i).toNat)
                    case atStart => exact ⟨0, Nat.zero_le _, rfl, hid (fun a h => by omega), Below.refl _ _⟩
                    case round =>
                      obtain ⟨q, hq, rfl, HQ, hbq⟩ := hrel
                      have hbpq := below_then hbp hbq
                      by_cases hqp : q < p
                      · have hqp' : (q : Int) < (p : Int) := by omega
                        have hqm : (q : Int) < (mm : Int) := by omega
                        obtain ⟨bp, offp, rfl, ep⟩ := (hTS.grown hbpq) p (by rw [HTL.out]; exact hpm)
                        obtain ⟨bq, offq, eq', eq⟩ := (hTS.grown hbpq) q (by rw [HTL.out]; omega)
                        simp only [Option.some.injEq, Addr.mk.injEq, and_true] at eq'
                        obtain ⟨rfl, rfl⟩ := eq'
                        obtain ⟨tp, htp⟩ : ∃ t, (allTx l).getD p .empty = t := ⟨_, rfl⟩
                        obtain ⟨tq, htq⟩ : ∃ t, (allTx l).getD q .empty = t := ⟨_, rfl⟩
                        rw [htp] at ep
                        rw [htq] at eq
                        have HTP := hid htp
                        have HTQ := hid htq
                        clear htp htq
                        have gp := lt_of_cell ep
                        by_cases he : tp = tq
                        · have h1 := tx_same he
                          have hzf : z = 6 := by rw [← HZ.out]; exact twice_yes HOK.out (i := p) (k := q) (by rw [HTL.out]; exact hpm) hqp (by rw [HTP.out, HTQ.out]; exact he)
                          clear he
                          go_wp2_with fail
                          go_quiet (fail)
                          go_wp2
                          go_ret
                          exact ⟨by first | rfl | (rw [hzf]; rfl), below_drewN (below_then hBw5 hbpq) _⟩
                        · have h1 := tx_diff he
                          have HE := hid he
                          clear he
                          go_wp2_with fail
                          go_quiet (fail)
                          go_wp2
                          go_roundw
                          case rel => exact ⟨q + 1, by omega, by go_num, hid (fun b hb => by
                            by_cases e : b = q
                            · subst e; rw [HTP.out, HTQ.out]; exact HE.out
                            · exact HQ.out b (by omega)), below_drewN hbq _⟩
                          case measure => simp [intOf]; omega
                      · have hqp' : ¬ (q : Int) < (p : Int) := by omega
                        have hqe : q = p := by omega
                        have HQ2 : Hid (∀ b, b < p → (allTx l).getD p .empty ≠ (allTx l).getD b .empty) := hid (fun b hb => HQ.out b (by omega))
                        have HQE := hid hqe
                        clear HQ hqe hqp
                        go_wp2
                        go_roundw
                        case rel => exact ⟨p + 1, by omega, by go_num, hid (fun a ha b hb => by
                          by_cases e : a = p
                          · subst e; exact HQ2.out b hb
                          · exact HP.out a (by omega) b hb), hbpq⟩
                        case measure => simp [intOf]; omega
                  · have hpm' : ¬ (p : Int) < (mm : Int) := by omega
                    have hpe : p = mm := by omega
                    have hz0 : z = 0 := by rw [← HZ.out]; exact twice_no HOK.out (fun i hi k hk => HP.out i (by rw [HTL.out] at hi; omega) k hk)
                    clear HP hpe hpm
                    go_wp2
                    go_ret
                    exact ⟨by first | rfl | (rw [hz0]; rfl), below_then hBw5 hbp⟩
              · have g40' : (40 : Int) < (k2 : Int) := by omega
                have hzf : z = 1 := by rw [← HZ.out]; apply lexErr_bad; rw [HLO.out]; simp [g40]
                clear h40 g40 HLO
                go_wp2_with fail
                refine hcall.mono ?_
                rintro e w' ⟨rfl, hb'⟩
                replace s0 := cell_grown hb' s0
                replace s1 := cell_grown hb' s1
                have sl2 := lt_of_cell s0
                go_wp2
                go_ret
                exact ⟨by first | rfl | (rw [hzf]; rfl), below_then hBw hb'⟩
            · have h40' : (40 : Int) < (k : Int) := by omega
              have hzf : z = 1 := by rw [← HZ.out]; apply lexErr_bad; rw [HLO.out]; simp [h40]
              clear h40 HLO
              go_wp2_with fail
              refine hcall.mono ?_
              rintro e w' ⟨rfl, hb'⟩
              replace s0 := cell_grown hb' s0
              have sl2 := lt_of_cell s0
              go_wp2
              go_ret
              exact ⟨by first | rfl | (rw [hzf]; rfl), below_then hBw hb'⟩

end Go.Proofs.YtbampfkmgjfofaaGreatDoor

namespace Go.Proofs.YtbampfkmgjfofaaGreatDoor
open Go.RowKit

/-- The error of a list of texts. -/
def listedM (L : List Tx) : Int := if 80 < L.length then 3 else if L.all textOk then 0 else 1

set_option maxHeartbeats 1000000 in
theorem listed_any (L : List Tx) (n cap : Nat) (a : Option Addr) (w : World) (hL : L.length = n) (hn : n ≤ 1000) (hS : Strs w a L) (hs : ∀ t ∈ L, t.size ≤ 1000) :
    Calls Tryz.prog 23 #[.slice a n cap] w fun e w' => e = .returned (.int .i64 (listedM L)) ∧ Below w.heap.size w w' := by
  obtain ⟨z, hz⟩ : ∃ z, listedM L = z := ⟨_, rfl⟩
  rw [hz]
  have HZ : Hid ((if 80 < n then 3 else if L.all textOk then 0 else 1) = z) := hid (by rw [← hz, listedM, hL])
  have hcall := refTexts_any L 80 n cap a w hL (by unfold maxLen; omega) hS hs
  clear hz
  go_enter Tryz.func23, Tryz.ntmps23
  by_cases h80 : 80 < n
  · have h80' : (80 : Int) < (n : Int) := by omega
    have hzf : z = 3 := by rw [← HZ.out, if_pos h80]
    clear h80
    go_wp2
    go_ret
    exact ⟨by first | rfl | (rw [hzf]; rfl), Below.refl _ _⟩
  · have h80' : ¬ (80 : Int) < (n : Int) := by omega
    have e1 : decide ((n : Int) ≤ 80) = true := by rw [decide_eq_true_eq]; omega
    rw [e1, Bool.and_true] at hcall
    have HZ2 : Hid ((if L.all textOk then 0 else 1) = z) := hid (by rw [← HZ.out, if_neg h80])
    clear h80 e1 HZ
    cases ht : L.all textOk
    · have hzf : z = 1 := by rw [← HZ2.out, ht]; rfl
      rw [ht] at hcall
      clear ht
      go_wp2_with (go_at_call 55; refine hcall.mono ?_; rintro e w' ⟨rfl, hb'⟩)
      go_ret
      exact ⟨by first | rfl | (rw [hzf]; rfl), hb'⟩
    · have hzf : z = 0 := by rw [← HZ2.out, ht]; rfl
      rw [ht] at hcall
      clear ht
      go_wp2_with (go_at_call 55; refine hcall.mono ?_; rintro e w' ⟨rfl, hb'⟩)
      go_ret
      exact ⟨by first | rfl | (rw [hzf]; rfl), hb'⟩

set_option maxRecDepth 100000 in
set_option maxHeartbeats 4000000 in
theorem swapsFault_any (S : List (Int × Int × Int)) (n cap : Nat) (a : Option Addr) (w : World) (hL : S.length = n) (hn : n ≤ 1000) (hS : SwapsAt w a S) :
    Calls Tryz.prog 48 #[.slice a n cap] w fun e w' => e = .returned (.int .i64 (swapsErr S)) ∧ w = w' := by
  obtain ⟨z, hz⟩ : ∃ z, swapsErr S = z := ⟨_, rfl⟩
  rw [hz]
  have HZ : Hid ((if 20 < n then 3 else if S.all swapOk then 0 else 1) = z) := hid (by rw [← hz, swapsErr, hL])
  have HL := hid hL
  clear hz hL
  go_enter Tryz.func48, Tryz.ntmps48
  by_cases h20 : 20 < n
  · have h20' : (20 : Int) < (n : Int) := by omega
    have hzf : z = 3 := by rw [← HZ.out, if_pos h20]
    clear h20
    go_wp2
    go_ret
    exact ⟨by first | rfl | (rw [hzf]; rfl), rfl⟩
  · have h20' : ¬ (20 : Int) < (n : Int) := by omega
    have HZ2 : Hid ((if S.all swapOk then 0 else 1) = z) := hid (by rw [← HZ.out, if_neg h20])
    clear h20 HZ
    have hbad : Hid (∀ k, k < n → swapOk (S.getD k (0, 0, 0)) = false → z = 1) := hid (fun k hk h => by
      rw [← HZ2.out]
      have : S.all swapOk = false := by
        rw [List.all_eq_false]
        refine ⟨S.getD k (0, 0, 0), ?_, by rw [h]; simp⟩
        rw [List.getD_eq_getElem?_getD, List.getElem?_eq_getElem (by rw [HL.out]; exact hk), Option.getD_some]
        exact List.getElem_mem _
      rw [this]
      rfl)
    go_wp2_with fail
    go_loopw [3] (fun i wr => ∃ k : Nat, k ≤ n ∧ i = .int .i64 k ∧ Hid (∀ j, j < k → swapOk (S.getD j (0, 0, 0)) = true) ∧ Hid (wr = w)) (fun i _ => n - (intOf i).toNat)
    case atStart => exact ⟨0, Nat.zero_le _, rfl, hid (fun j h => by omega), hid rfl⟩
    case round =>
      obtain ⟨k, hk, rfl, HF, HW⟩ := hrel
      rw [HW.out]
      clear HW
      clear wr
      by_cases hlt : k < n
      · have hlt' : (k : Int) < (n : Int) := by omega
        obtain ⟨b, off, rfl, e0, e1, e2⟩ := hS k (by rw [HL.out]; exact hlt)
        have hbk := hbad.out k hlt
        obtain ⟨x, hx⟩ : ∃ x, S.getD k (0, 0, 0) = x := ⟨_, rfl⟩
        rw [hx] at e0 e1 e2 hbk
        have HX := hid hx
        clear hx
        obtain ⟨x1, x2, x3⟩ := x
        simp only at e0 e1 e2
        have HB := hid hbk
        clear hbk
        have gb := lt_of_cell e0
        have run2 : ∀ v, inB v 0 999999999 = valueOk v := fun _ => rfl
        by_cases hk12 : x1 = 1 ∨ x1 = 2
        · have hko : swapOk (x1, x2, x3) = (valueOk x2 && valueOk x3) := by
            unfold swapOk
            rcases hk12 with h | h <;> simp [h]
          have HKO := hid hko
          clear hko
          rcases hk12 with h1 | h1
          all_goals
            subst h1
            cases hv : valueOk x2
            · have hzf : z = 1 := HB.out (by rw [HKO.out, hv]; rfl)
              clear run2
              have hv' : inB x2 0 999999999 = false := hv
              clear hv
              go_wp2_with (go_at_call 49; refine (rin_any _ _ _ _).mono ?_; rintro e w' ⟨rfl, rfl⟩; rw [hv'])
              go_ret
              exact ⟨by first | rfl | (rw [hzf]; rfl), rfl⟩
            · cases hy : valueOk x3
              · have hzf : z = 1 := HB.out (by rw [HKO.out, hv, hy]; rfl)
                clear run2
                have hv' : inB x2 0 999999999 = true := hv
                have hy' : inB x3 0 999999999 = false := hy
                clear hv hy
                go_wp2_with (first | (go_at_call_has 49 x2; refine (rin_any _ _ _ _).mono ?_; rintro e w' ⟨rfl, rfl⟩; rw [hv']) | (go_at_call_has 49 x3; refine (rin_any _ _ _ _).mono ?_; rintro e w' ⟨rfl, rfl⟩; rw [hy']))
                go_ret
                exact ⟨by first | rfl | (rw [hzf]; rfl), rfl⟩
              · have HO : Hid (swapOk (S.getD k (0, 0, 0)) = true) := hid (by rw [HX.out, HKO.out, hv, hy]; rfl)
                clear run2
                have hv' : inB x2 0 999999999 = true := hv
                have hy' : inB x3 0 999999999 = true := hy
                clear hv hy
                go_wp2_with (first | (go_at_call_has 49 x2; refine (rin_any _ _ _ _).mono ?_; rintro e w' ⟨rfl, rfl⟩; rw [hv']) | (go_at_call_has 49 x3; refine (rin_any _ _ _ _).mono ?_; rintro e w' ⟨rfl, rfl⟩; rw [hy']))
                go_roundw
                case rel => exact ⟨k + 1, by omega, by go_num, hid (fun j hj => by
                  by_cases e : j = k
                  · subst e; exact HO.out
                  · exact HF.out j (by omega)), by first | exact hid rfl | exact hid trivial⟩
                case measure => simp [intOf]; omega
        · have b1 : (x1 != 1) = true := by simp; omega
          have b2 : (x1 != 2) = true := by simp; omega
          have hzf : z = 1 := HB.out (by unfold swapOk; simp; omega)
          clear hk12 run2
          go_wp2
          go_ret
          exact ⟨by first | rfl | (rw [hzf]; rfl), rfl⟩
      · have hlt' : ¬ (k : Int) < (n : Int) := by omega
        have hzf : z = 0 := by
          rw [← HZ2.out]
          have : S.all swapOk = true := by
            rw [← allN_list S (0, 0, 0) swapOk, HL.out]
            exact (allN_of n _).2 (fun i hi => HF.out i (by omega))
          rw [this]
          rfl
        clear HF hlt
        go_wp2
        go_ret
        exact ⟨by first | rfl | (rw [hzf]; rfl), rfl⟩

end Go.Proofs.YtbampfkmgjfofaaGreatDoor
