/- Tongue: the differences of a match, where texts lie; a text and itself. -/
import Derived.Test.YtohahlnhbppnhaaAT
import Derived.Test.YtohahlnhbppnhaaAS
import Derived.Test.YtohahlnhbppnhaaAJ
namespace Go.Proofs.Ytohahlnhbppnhaa
open Go.RowKit
set_option linter.unusedSimpArgs false
set_option linter.unusedVariables false

def DiffsPost (L R : List Sen) (l : List (Int × Int)) (w : World) (e : Ending) (w' : World) : Prop :=
  Below w.heap.size w w' ∧ ((faultM L R ≠ 0 ∧ e = .returned (.tuple #[.slice none 0 0, .int .i64 (faultM L R)])) ∨
    (faultM L R = 0 ∧ matchM L.length R.length l = none ∧ e = .returned (.tuple #[.slice none 0 0, .int .i64 9])) ∨
    (faultM L R = 0 ∧ ∃ ms a cap, matchM L.length R.length l = some ms ∧ e = .returned (.tuple #[.slice a (difsM L R ms ms.length).length cap, .int .i64 0]) ∧ IntsAt w' a (difsM L R ms ms.length)))

set_option maxHeartbeats 1000000 in
theorem diffsOf_any (L R : List Sen) (nl cl nr cr : Nat) (la ra : Option Addr) (w : World) (hL : L.length = nl) (hR : R.length = nr) (sL : Small L) (sR : Small R) (hS : TextAt w la L) (hT : TextAt w ra R) (hcl : nl ≤ cl) (hcr : nr ≤ cr) (l : List (Int × Int)) (n sc : Nat) (sa : Option Addr) (hl : l.length = n) (hn : n ≤ 1000) (hP : PairsAt w sa l) :
    Calls Try.prog 25 #[.slice la nl cl, .slice ra nr cr, .slice sa n sc] w (DiffsPost L R l w) := by
  have hmo := matchOf_any L R nl cl nr cr la ra w hL hR sL sR hS hT hcl hcr l n sc sa hl hn hP
  unfold DiffsPost
  rw [hL, hR]
  go_enter Try.func25, Try.ntmps25
  go_wp2_with (go_at_call 58; refine hmo.mono ?_; clear hmo; rintro e w1 ⟨hb1, ⟨hne, rfl⟩ | ⟨hz, hmm, rfl⟩ | ⟨hz, ms, b, b0, b2, ma, mc, hmm, rfl, hch, hmv⟩⟩)
  · have h0' : ((faultM L R : Int) != 0) = true := by simp [hne]
    generalize faultM L R = z at hne h0' ⊢
    go_wp2_with fail
    exact bodyPost_ret (v := .tuple #[.slice none 0 0, .int .i64 z]) (by simp [results, Try.f25, go_sem]) rfl ⟨hb1.alloc hb1.size _, .inl ⟨hne, rfl⟩⟩
  · go_wp2_with fail
    exact bodyPost_ret (v := .tuple #[.slice none 0 0, .int .i64 9]) (by simp [results, Try.f25, go_sem]) rfl ⟨hb1.alloc hb1.size _, .inr (.inl ⟨hz, hmm, rfl⟩)⟩
  · have hfc := match_fits hmm
    obtain ⟨l1, l2, v1, v2⟩ := fault_zero hz
    have hco := fun W hbW => differences_any L R nl cl nr cr ms.length b mc la ra ma ms W hL hR (fine_of L l1 v1).1 (fine_of R l2 v2).1 hcl hcr (hS.grown (below_then hb1 hbW)) (hT.grown (below_then hb1 hbW)) rfl (by rw [hfc.1, hl]; exact hn) hfc.2 (hmv.grown hbW)
    have HMM := hid hmm
    clear hmm hfc l1 l2 v1 v2 hch hmv hS hT hP sL sR
    go_wp2_with (go_at_call 60; refine (hco _ (below_alloc _ _)).mono ?_; rintro e w2 ⟨a, cap, rfl, hI, hb2⟩)
    exact bodyPost_ret (v := .tuple #[.slice a (difsM L R ms ms.length).length cap, .int .i64 0]) (by simp [results, Try.f25, go_sem]) rfl ⟨below_then hb1 (below_then (below_alloc _ _) hb2), .inr (.inr ⟨hz, ms, a, cap, HMM.out, rfl, hI⟩)⟩

/-- Steps of one and one are a match of a text and itself. -/
theorem ones_go (n : Nat) : ∀ d i, n - i = d → i ≤ n → ∃ ms, goM n n (onesN d) i i = some (ms, n, n) ∧ ∀ m ∈ ms, m.1 = m.2.1 ∧ m.2.2.1 = m.2.2.2 := by
  intro d
  induction d with
  | zero =>
    intro i hd hi
    have e : i = n := by omega
    subst e
    exact ⟨[], rfl, fun m hm => by cases hm⟩
  | succ d ih =>
    intro i hd hi
    obtain ⟨ms, h1, h2⟩ := ih (i + 1) (by omega) (by omega)
    have ht : takeM n n i i 1 1 = some (1, 1) := by
      have e1 : fitsM n n i i (1, 1) = true := by
        simp only [fitsM, Bool.and_eq_true, decide_eq_true_eq]
        exact ⟨by omega, by omega⟩
      unfold takeM movesM
      cases h : (kinds.filter (fitsM n n i i)).find? (isStep 1 1) with
      | none =>
        rw [List.find?_eq_none] at h
        exact absurd (by simp [isStep]) (h (1, 1) (List.mem_filter.2 ⟨by simp [kinds], e1⟩))
      | some s =>
        have := List.find?_some h
        simp only [isStep, decide_eq_true_eq] at this
        obtain ⟨x, y⟩ := s
        simp only at this
        have hx : x = 1 := by omega
        have hy : y = 1 := by omega
        rw [hx, hy]
    refine ⟨(i, i, 1, 1) :: ms, ?_, fun m hm => ?_⟩
    · show goM n n ((1, 1) :: onesN d) i i = _
      unfold goM
      simp only [ht, h1, Option.map_some]
    · rcases List.mem_cons.1 hm with rfl | hm
      · exact ⟨rfl, rfl⟩
      · exact h2 m hm

theorem ones_match (L : List Sen) : ∃ ms, matchM L.length L.length (onesN L.length) = some ms ∧ difsM L L ms ms.length = [] := by
  obtain ⟨ms, h1, h2⟩ := ones_go L.length L.length 0 rfl (Nat.zero_le _)
  refine ⟨ms, by unfold matchM; rw [h1]; simp, ?_⟩
  have hno : ∀ j, j ≤ ms.length → difsM L L ms j = [] := by
    intro j
    induction j with
    | zero => intro _; rfl
    | succ j ih =>
      intro hj
      rw [difsM_no L L ms j ?_]
      · exact ih (by omega)
      · have hm := h2 (ms.getD j default) (by rw [List.getD_eq_getElem?_getD, List.getElem?_eq_getElem (by omega)]; exact List.getElem_mem _)
        unfold difM
        rw [hm.1, hm.2, apartM_self]
        rfl
  exact hno _ (Nat.le_refl _)

end Go.Proofs.Ytohahlnhbppnhaa
