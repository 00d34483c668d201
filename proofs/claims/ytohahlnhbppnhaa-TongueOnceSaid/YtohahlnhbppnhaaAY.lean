/- Tongue: level columns, where texts lie; the kinds of steps. -/
import Derived.Test.YtohahlnhbppnhaaAX
import Derived.Test.YtohahlnhbppnhaaAJ
namespace Go.Proofs.Ytohahlnhbppnhaa
open Go.RowKit
set_option linter.unusedSimpArgs false
set_option linter.unusedVariables false

def LevelPost (L R : List Sen) (l : List (Int × Int)) (w : World) (e : Ending) (w' : World) : Prop :=
  Below w.heap.size w w' ∧ ((faultM L R ≠ 0 ∧ e = .returned (.tuple #[.slice none 0 0, .int .i64 0, .int .i64 0, .int .i64 (faultM L R)])) ∨
    (faultM L R = 0 ∧ matchM L.length R.length l = none ∧ e = .returned (.tuple #[.slice none 0 0, .int .i64 0, .int .i64 0, .int .i64 9])) ∨
    (faultM L R = 0 ∧ ∃ ms a cap, matchM L.length R.length l = some ms ∧ e = .returned (.tuple #[.slice a ms.length cap, .int .i64 (linesM L R ms ms.length), .int .i64 (blankM L R ms ms.length), .int .i64 0]) ∧ IntsAt w' a (beginsM L R ms ms.length)))

set_option maxHeartbeats 1000000 in
theorem levelOf_any (L R : List Sen) (nl cl nr cr : Nat) (la ra : Option Addr) (w : World) (hL : L.length = nl) (hR : R.length = nr) (sL : Small L) (sR : Small R) (hS : TextAt w la L) (hT : TextAt w ra R) (hcl : nl ≤ cl) (hcr : nr ≤ cr) (l : List (Int × Int)) (n sc : Nat) (sa : Option Addr) (hl : l.length = n) (hn : n ≤ 1000) (hP : PairsAt w sa l) :
    Calls Try.prog 26 #[.slice la nl cl, .slice ra nr cr, .slice sa n sc] w (LevelPost L R l w) := by
  have hmo := matchOf_any L R nl cl nr cr la ra w hL hR sL sR hS hT hcl hcr l n sc sa hl hn hP
  unfold LevelPost
  rw [hL, hR]
  go_enter Try.func26, Try.ntmps26
  go_wp2_with (go_at_call 58; refine hmo.mono ?_; clear hmo; rintro e w1 ⟨hb1, ⟨hne, rfl⟩ | ⟨hz, hmm, rfl⟩ | ⟨hz, ms, b, b0, b2, ma, mc, hmm, rfl, hch, hmv⟩⟩)
  · have h0' : ((faultM L R : Int) != 0) = true := by simp [hne]
    generalize faultM L R = z at hne h0' ⊢
    go_wp2_with fail
    exact bodyPost_ret (v := .tuple #[.slice none 0 0, .int .i64 0, .int .i64 0, .int .i64 z]) (by simp [results, Try.f26, go_sem]) rfl ⟨hb1.alloc hb1.size _, .inl ⟨hne, rfl⟩⟩
  · go_wp2_with fail
    exact bodyPost_ret (v := .tuple #[.slice none 0 0, .int .i64 0, .int .i64 0, .int .i64 9]) (by simp [results, Try.f26, go_sem]) rfl ⟨hb1.alloc hb1.size _, .inr (.inl ⟨hz, hmm, rfl⟩)⟩
  · have hfc := match_fits hmm
    obtain ⟨l1, l2, v1, v2⟩ := fault_zero hz
    have fL := fine_of L l1 v1
    have fR := fine_of R l2 v2
    have hco := fun W hbW => level_any L R nl cl nr cr ms.length b mc la ra ma ms W hL hR (by omega) (by omega) (fun s hs => (fL.2.2 s hs).2) (fun s hs => (fR.2.2 s hs).2) hcl hcr (hS.grown (below_then hb1 hbW)) (hT.grown (below_then hb1 hbW)) rfl (by rw [hfc.1, hl]; exact hn) hfc.2 (hmv.grown hbW)
    have HMM := hid hmm
    clear hmm hfc l1 l2 v1 v2 hch hmv hS hT hP sL sR fL fR
    obtain ⟨z1, hz1⟩ : ∃ z, linesM L R ms ms.length = z := ⟨_, rfl⟩
    obtain ⟨z2, hz2⟩ : ∃ z, blankM L R ms ms.length = z := ⟨_, rfl⟩
    simp only [hz1, hz2] at hco
    have HZ1 := hid hz1
    have HZ2 := hid hz2
    clear hz1 hz2
    go_wp2_with (go_at_call 61; refine (hco _ (below_alloc _ _)).mono ?_; rintro e w2 ⟨a, cap, rfl, hI, hb2⟩)
    exact bodyPost_ret (v := .tuple #[.slice a ms.length cap, .int .i64 z1, .int .i64 z2, .int .i64 0]) (by simp [results, Try.f26, go_sem]) rfl ⟨below_then hb1 (below_then (below_alloc _ _) hb2), .inr (.inr ⟨hz, ms, a, cap, HMM.out, by rw [HZ1.out, HZ2.out], hI⟩)⟩

/-- The kinds of steps, as numbers. -/
def kindsI : List (Int × Int) := [(2, 1), (1, 2), (1, 1), (1, 0), (0, 1)]

set_option maxHeartbeats 400000 in
theorem kinds_any (w : World) : Calls Try.prog 56 #[] w fun e w' => ∃ b, e = .returned (.slice (some ⟨b, 0, none⟩) 5 5) ∧ PairsAt w' (some ⟨b, 0, none⟩) kindsI ∧ Below w.heap.size w w' := by
  go_enter Try.func56, Try.ntmps56
  go_wp2_with fail
  go_ret
  refine ⟨w.heap.size, rfl, ?_, below_alloc _ _⟩
  intro i hi
  refine ⟨w.heap.size, 0, rfl, ?_⟩
  have hi5 : i < 5 := hi
  iterate 5 (rcases i with _ | i; · constructor <;> simp [kindsI, go_sem])
  omega

end Go.Proofs.Ytohahlnhbppnhaa
