/- Tongue, the reference: the error of two texts, whether they are right. -/
import Derived.Test.YtohahlnhbppnhaaAH
namespace Go.Proofs.Ytohahlnhbppnhaa
open Go.RowKit
set_option linter.unusedSimpArgs false
set_option linter.unusedVariables false

theorem fault_of {L R : List Sen} (h1 : L.length ≤ 20) (h2 : R.length ≤ 20) (hl : (L ++ R).all limS = true) : faultM L R = if (L ++ R).all valS then 0 else 1 := by
  unfold faultM limT valT
  rw [List.all_append] at hl ⊢
  simp only [Bool.and_eq_true] at hl
  rw [hl.1, hl.2]
  simp [h1, h2]

theorem fault_long {L R : List Sen} (h : ¬ (L.length ≤ 20 ∧ R.length ≤ 20)) : faultM L R = 3 := by
  unfold faultM limT
  by_cases h1 : L.length ≤ 20
  · have h2 : ¬ R.length ≤ 20 := fun h2 => h ⟨h1, h2⟩
    simp [h2]
  · simp [h1]

theorem fault_marks {L R : List Sen} (hl : (L ++ R).all limS = false) : faultM L R = 3 := by
  unfold faultM limT
  rw [List.all_append] at hl
  cases h1 : L.all limS
  · simp
  · rw [h1] at hl
    simp only [Bool.true_and] at hl
    simp [hl]

theorem valS_split (s : Sen) : valS s = ((s.marks.all fun x => inB x 0 999) && (refRise s.marks && inB s.size 1 200)) := by
  unfold valS
  rw [rising_split, Bool.and_assoc]

set_option maxRecDepth 100000 in
set_option maxHeartbeats 4000000 in
theorem refFault_any (L R : List Sen) (n m nc mc : Nat) (la ra : Option Addr) (w : World) (hL : L.length = n) (hR : R.length = m) (hn : n ≤ 1000) (hm : m ≤ 1000) (kL : ∀ s ∈ L, s.marks.length ≤ 1000) (kR : ∀ s ∈ R, s.marks.length ≤ 1000) (hS : TextAt w la L) (hT : TextAt w ra R) :
    Calls Try.prog 51 #[.slice la n nc, .slice ra m mc] w fun e w' => e = .returned (.int .i64 (faultM L R)) ∧ Below w.heap.size w w' := by
  obtain ⟨i0, hi0, hz0, hz1, hz2⟩ := info_parts Try.info103
  by_cases h1 : n ≤ 20
  · by_cases h2 : m ≤ 20
    · have h1' : ¬ (20 : Int) < (n : Int) := by omega
      have h2' : ¬ (20 : Int) < (m : Int) := by omega
      have hown0 := World.ownsRow_made (base := w.heap.size) (e := 103) (size := 2) w #[] 0 (Nat.le_refl _) (Nat.zero_le _) rfl
      have hb0 := below_alloc w (.cells #[] 103)
      have HFO : Hid ((L ++ R).all limS = true → faultM L R = if (L ++ R).all valS then 0 else 1) := hid (fun hl => fault_of (by omega) (by omega) hl)
      have hTl : (L ++ R).length = n + m := by rw [List.length_append, hL, hR]
      have HL := hid hL
      have HR := hid hR
      have KM : Hid (∀ s ∈ L ++ R, s.marks.length ≤ 1000) := hid (fun s hs => by
        rcases List.mem_append.1 hs with h | h
        · exact kL s h
        · exact kR s h)
      have HTL := hid hTl
      clear hL hR kL kR hTl h1 h2
      go_enter Try.func51, Try.ntmps51
      go_wp2_with (first | (at_builtin; refine wpList_append_text (w0 := w) rfl _ _ 22 rfl w.heap.size 103 i0 Try.underlying22 hi0 hz0 hz1 hz2 _ 0 _ rfl hown0 la n nc L rfl HL.out hS hb0 (by omega) hb0.size ?_; intro v1 w1 us hown1 hg1 hus; have hg1' : (w.alloc (.cells #[] 103)).grownBy w1 (some w.heap.size) := hg1; have hb1 : Below w.heap.size w w1 := hb0.grown hg1' hb0.size (fun r e => by cases e; exact Nat.le_refl _); have hz1' := hb1.size; clear hg1 hg1') | (at_builtin; refine wpList_append_text (w0 := w) rfl _ _ 22 rfl w.heap.size 103 i0 Try.underlying22 hi0 hz0 hz1 hz2 _ (0 + n) _ rfl hown1 ra m mc R rfl HR.out hT hb1 (by omega) hz1' ?_; intro v2 w2 us2 hown2 hg2 hus2; have hb2 : Below w.heap.size w w2 := hb1.grown hg2 hb1.size (fun r e => (hown1.lt r e).1); clear hg2))
      rw [Nat.zero_add] at hown2
      have hcs := (hus.append hus2)
      rw [List.nil_append] at hown2
      obtain ⟨ta, tc, rfl⟩ := owns_shape hown2
      have htx := text_of_cells HTL.out hown2 hcs hb2
      obtain ⟨N, hN⟩ : ∃ N, N = n + m := ⟨_, rfl⟩
      rw [← hN] at HTL
      have hNb : N ≤ 2000 := by omega
      simp only [← hN]
      obtain ⟨T, hTT⟩ : ∃ T, T = L ++ R := ⟨_, rfl⟩
      rw [← hTT] at HFO KM HTL htx
      have HFM : Hid (T.all limS = false → faultM L R = 3) := hid (by rw [hTT]; exact fault_marks)
      clear hTT hcs hown1 hown2 hus hus2 hN hown0 hb0 hS hT hb1 HL HR h1' h2'
      go_loopw [6] (fun i wr => ∃ j : Nat, j ≤ N ∧ i = .int .i64 j ∧ Hid (∀ i, i < j → limS (T.getD i default) = true) ∧ wr = w2) (fun i _ => N - (intOf i).toNat)
      case atStart => exact ⟨0, Nat.zero_le _, rfl, hid (fun i hi => by omega), rfl⟩
      case round =>
        obtain ⟨j, hj, rfl, HK, rfl⟩ := hrel
        by_cases hlt : j < N
        · have hlt' : (j : Int) < N := by omega
          obtain ⟨b, off, ma, c, ea, e1, -, e3⟩ := htx j (by rw [HTL.out]; exact hlt)
          subst ea
          obtain ⟨k, hk⟩ : ∃ k, (T.getD j default).marks.length = k := ⟨_, rfl⟩
          rw [hk] at e1
          have HF : Hid (limS (T.getD j default) = decide (k ≤ 12)) := hid (by unfold limS; rw [hk])
          clear e3 hk
          by_cases h15 : k ≤ 12
          · have h15' : ¬ (12 : Int) < (k : Int) := by omega
            have HV : Hid (limS (T.getD j default) = true) := hid (by rw [HF.out]; simp [h15])
            clear h15
            go_wp2_with fail
            go_roundw
            case rel => exact ⟨j + 1, by omega, by go_num, hid (fun i hi => by
              by_cases e : i = j
              · subst e; exact HV.out
              · exact HK.out i (by omega)), by trivial⟩
            case measure => simp [intOf]; omega
          · have h15' : (12 : Int) < (k : Int) := by omega
            have HX : Hid (faultM L R = 3) := hid (HFM.out (allS_false (i := j) (by rw [HTL.out]; exact hlt) (by rw [HF.out]; simp [h15])))
            clear h15
            go_wp2_with fail
            go_ret
            exact ⟨by rw [HX.out]; rfl, hb2⟩
        · have hjn : j = N := by omega
          subst hjn
          have HX : Hid (faultM L R = if T.all valS then 0 else 1) := hid (HFO.out (allS_true (fun i hi => HK.out i (by rw [← HTL.out]; exact hi))))
          clear HFO HFM HK
          go_wp2_with fail
          have HONE : Hid (∀ i, i < j → valS (T.getD i default) = false → faultM L R = 1) := hid (fun i hi hv => by
            rw [HX.out, allS_false (i := i) (by rw [HTL.out]; exact hi) hv]
            rfl)
          have HZERO : Hid ((∀ i, i < j → valS (T.getD i default) = true) → faultM L R = 0) := hid (fun h => by
            rw [HX.out, allS_true (fun i hi => h i (by rw [← HTL.out]; exact hi))]
            rfl)
          clear HX
          go_loopw [7, 8] (fun i _ wr2 => ∃ p : Nat, p ≤ j ∧ i = .int .i64 p ∧ Hid (∀ i, i < p → valS (T.getD i default) = true) ∧ Below wr.heap.size wr wr2) (fun i _ _ => j - (intOf i).toNat)
          case atStart => exact ⟨0, Nat.zero_le _, rfl, hid (fun i hi => by omega), Below.refl _ _⟩
          case round =>
            obtain ⟨p, hp, rfl, HP, hB⟩ := hrel
            have hbA := below_then hb2 hB
            by_cases hlp : p < j
            · have hlp' : (p : Int) < j := by omega
              obtain ⟨b, off, ma, c, ea, e1, e2, e3⟩ := htx p (by rw [HTL.out]; exact hlp)
              subst ea
              replace e1 := cell_grown hB e1
              replace e2 := cell_grown hB e2
              replace e3 := e3.grown hB
              have ge := lt_of_cell e1
              have HVS : Hid (valS (T.getD p default) = (((T.getD p default).marks.all fun x => inB x 0 999) && (refRise (T.getD p default).marks && inB (T.getD p default).size 1 200))) := hid (valS_split _)
              have hk1 := KM.out _ (sen_mem (T := T) (i := p) (by rw [HTL.out]; exact hlp))
              have HSZ := hid hj
              generalize (T.getD p default).size = z at e2 HVS
              generalize (T.getD p default).marks = M at e1 e3 HVS hk1
              obtain ⟨k, hk⟩ : ∃ k, M.length = k := ⟨_, rfl⟩
              rw [hk] at e1 hk1
              have HK := hid hk
              have hri := fun W hb => refRise_any M k c ma W hk (by omega) (e3.grown hb)
              clear hk
              go_wp2_with fail
              go_loopw [8] (fun i wr3 => ∃ q : Nat, q ≤ k ∧ i = .int .i64 q ∧ Hid (∀ i, i < q → inB (M.getD i 0) 0 999 = true) ∧ wr3 = wr) (fun i _ => k - (intOf i).toNat)
              case atStart => exact ⟨0, Nat.zero_le _, rfl, hid (fun i hi => by omega), rfl⟩
              case round =>
                obtain ⟨q, hq, rfl, HQ, rfl⟩ := hrel
                by_cases hlq : q < k
                · have hlq' : (q : Int) < k := by omega
                  obtain ⟨b', off', ea, c1⟩ := e3 q (by rw [HK.out]; exact hlq)
                  subst ea
                  have hin := fun W => in_any (M.getD q 0) 0 999 W
                  obtain ⟨r, hr⟩ : ∃ r, inB (M.getD q 0) 0 999 = r := ⟨_, rfl⟩
                  rw [hr] at hin
                  have HRR := hid hr
                  clear hr
                  obtain ⟨x, hx⟩ : ∃ x, M.getD q 0 = x := ⟨_, rfl⟩
                  rw [hx] at c1
                  simp only [hx] at hin
                  have HXX := hid hx
                  clear hx
                  cases hv : r
                  · subst hv
                    have HX : Hid (faultM L R = 1) := hid (HONE.out p hlp (by
                      have hf : (M.all fun x => inB x 0 999) = false := by
                        rw [← Bool.not_eq_true, List.all_eq_true]
                        intro h
                        have hlM : q < M.length := by rw [HK.out]; exact hlq
                        have := h (M[q]'hlM) (List.getElem_mem _)
                        have h2 := HRR.out
                        rw [List.getD_eq_getElem?_getD, List.getElem?_eq_getElem hlM, Option.getD_some] at h2
                        rw [h2] at this
                        cases this
                      rw [HVS.out, hf]
                      rfl))
                    go_wp2_with (go_at_call 41; refine (hin _).mono ?_; rintro e w' ⟨rfl, rfl⟩)
                    go_ret
                    exact ⟨by rw [HX.out]; rfl, hbA⟩
                  · subst hv
                    have HV : Hid (inB (M.getD q 0) 0 999 = true) := HRR
                    go_wp2_with (go_at_call 41; refine (hin _).mono ?_; rintro e w' ⟨rfl, rfl⟩)
                    go_roundw
                    case rel => exact ⟨q + 1, by omega, by go_num, hid (fun i hi => by
                      by_cases e : i = q
                      · subst e; exact HV.out
                      · exact HQ.out i (by omega)), by trivial⟩
                    case measure => simp [intOf]; omega
                · have hqk : q = k := by omega
                  subst hqk
                  have hall : (M.all fun x => inB x 0 999) = true := by
                    rw [List.all_eq_true]
                    intro x hx
                    obtain ⟨i, hi, rfl⟩ := List.mem_iff_getElem.1 hx
                    have := HQ.out i (by rw [← HK.out]; exact hi)
                    rwa [List.getD_eq_getElem?_getD, List.getElem?_eq_getElem hi, Option.getD_some] at this
                  have HV2 : Hid (valS (T.getD p default) = (refRise M && inB z 1 200)) := hid (by rw [HVS.out, hall, Bool.true_and])
                  clear hall HVS
                  obtain ⟨r1, hr1⟩ : ∃ r, refRise M = r := ⟨_, rfl⟩
                  obtain ⟨r2, hr2⟩ : ∃ r, inB z 1 200 = r := ⟨_, rfl⟩
                  have hin := fun W => in_any z 1 200 W
                  rw [hr2] at hin HV2
                  rw [hr1] at hri HV2
                  clear hr1 hr2
                  cases r1
                  · have HX : Hid (faultM L R = 1) := hid (HONE.out p hlp (by rw [HV2.out]; rfl))
                    go_wp2_with (go_at_call 72; refine (hri _ (Below.refl _ _)).mono ?_; rintro e w' ⟨rfl, hb'⟩)
                    go_ret
                    exact ⟨by rw [HX.out]; rfl, below_then hbA hb'⟩
                  · cases r2
                    · have HX : Hid (faultM L R = 1) := hid (HONE.out p hlp (by rw [HV2.out]; rfl))
                      go_wp2_with (first | (go_at_call 72; refine (hri _ (Below.refl _ _)).mono ?_; rintro e w' ⟨rfl, hb'⟩; replace e2 := cell_grown hb' e2) | (go_at_call 41; refine (hin _).mono ?_; rintro e w'' ⟨rfl, rfl⟩))
                      go_ret
                      exact ⟨by rw [HX.out]; rfl, below_then hbA hb'⟩
                    · have HV : Hid (valS (T.getD p default) = true) := hid (by rw [HV2.out]; rfl)
                      go_wp2_with (first | (go_at_call 72; refine (hri _ (Below.refl _ _)).mono ?_; rintro e w' ⟨rfl, hb'⟩; replace e2 := cell_grown hb' e2) | (go_at_call 41; refine (hin _).mono ?_; rintro e w'' ⟨rfl, rfl⟩))
                      go_roundw
                      case rel => exact ⟨p + 1, by omega, by go_num, hid (fun i hi => by
                        by_cases e : i = p
                        · subst e; exact HV.out
                        · exact HP.out i (by omega)), below_then hB hb'⟩
                      case measure => simp [intOf]; omega
            · have hpj : p = j := by omega
              subst hpj
              have HX : Hid (faultM L R = 0) := hid (HZERO.out (fun i hi => HP.out i hi))
              go_wp2_with fail
              go_ret
              exact ⟨by rw [HX.out]; rfl, hbA⟩
    · have h2' : (20 : Int) < (m : Int) := by omega
      have h1' : ¬ (20 : Int) < (n : Int) := by omega
      have HF : Hid (faultM L R = 3) := hid (fault_long (by rw [hL, hR]; omega))
      clear hL hR
      go_enter Try.func51, Try.ntmps51
      go_wp2_with fail
      go_ret
      exact ⟨by rw [HF.out]; rfl, Below.refl _ _⟩
  · have h1' : (20 : Int) < (n : Int) := by omega
    have HF : Hid (faultM L R = 3) := hid (fault_long (by rw [hL, hR]; omega))
    clear hL hR
    go_enter Try.func51, Try.ntmps51
    go_wp2_with fail
    go_ret
    exact ⟨by rw [HF.out]; rfl, Below.refl _ _⟩

end Go.Proofs.Ytohahlnhbppnhaa
