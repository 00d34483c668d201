/- Tongue: the report that counts, where texts lie. -/
import Derived.Test.YtohahlnhbppnhaaBJ
import Derived.Test.YtohahlnhbppnhaaAJ
namespace Go.Proofs.Ytohahlnhbppnhaa
open Go.RowKit
set_option linter.unusedSimpArgs false
set_option linter.unusedVariables false

/-- Pieces, as they lie in memory. -/
def PiecesAt (w : World) (a : Option Addr) (l : List (Int × Int)) : Prop :=
  ∀ i, i < l.length → ∃ b off, a = some ⟨b, off, none⟩ ∧ w.cell? ⟨b, off + i * 2, none⟩ = some (.int .u8 (l.getD i (0, 0)).1) ∧ w.cell? ⟨b, off + i * 2 + 1, none⟩ = some (.int .i64 (l.getD i (0, 0)).2)

theorem PiecesAt.grown {w w' : World} {a : Option Addr} {l : List (Int × Int)} (h : PiecesAt w a l) (hb : Below w.heap.size w w') : PiecesAt w' a l := fun i hi => by
  obtain ⟨b, off, ea, c0, c1⟩ := h i hi
  exact ⟨b, off, ea, cell_grown hb c0, cell_grown hb c1⟩

theorem pieces_of_owns {W : World} {B : Nat} {a : Option Addr} {cap : Nat} {l : List (Int × Int)} (h : W.ownsRow B 68 2 (.slice a l.length cap) l.length (flatC l)) : PiecesAt W a l := by
  intro i hi
  rcases h.2 with ⟨hv, h0⟩ | ⟨g, cap', cur, hv, _⟩
  · omega
  · simp only [Value.slice.injEq] at hv
    obtain ⟨rfl, -, rfl⟩ := hv
    have hc := h.cells (g := g) rfl
    obtain ⟨e0, e1⟩ := flatC_get l i hi
    have c0 := hc _ _ e0
    have c1 := hc _ _ e1
    rw [add_plain] at c0 c1
    exact ⟨g, 0, rfl, c0, by rw [Nat.add_assoc]; exact c1⟩

def CountsPost (L R : List Sen) (l : List (Int × Int)) (lead : List Bool) (w : World) (e : Ending) (w' : World) : Prop :=
  Below w.heap.size w w' ∧ ((faultM L R ≠ 0 ∧ e = .returned (.tuple #[.slice none 0 0, .int .i64 (faultM L R)])) ∨
    (faultM L R = 0 ∧ matchM L.length R.length l = none ∧ e = .returned (.tuple #[.slice none 0 0, .int .i64 9])) ∨
    (faultM L R = 0 ∧ (∃ ms, matchM L.length R.length l = some ms) ∧ lead.length ≠ L.length ∧ e = .returned (.tuple #[.slice none 0 0, .int .i64 2])) ∨
    (faultM L R = 0 ∧ lead.length = L.length ∧ ∃ ms a cap, matchM L.length R.length l = some ms ∧ e = .returned (.tuple #[.slice a (countM lead ms ms.length).length cap, .int .i64 0]) ∧ PiecesAt w' a (countM lead ms ms.length) ∧ (countM lead ms ms.length).length ≤ 2 * ms.length))

set_option maxHeartbeats 1000000 in
theorem countsOf_any (L R : List Sen) (nl cl nr cr : Nat) (la ra : Option Addr) (w : World) (hL : L.length = nl) (hR : R.length = nr) (sL : Small L) (sR : Small R) (hS : TextAt w la L) (hT : TextAt w ra R) (hcl : nl ≤ cl) (hcr : nr ≤ cr) (l : List (Int × Int)) (n sc : Nat) (sa : Option Addr) (hl : l.length = n) (hn : n ≤ 1000) (hP : PairsAt w sa l)
    (lead : List Bool) (ln lc : Nat) (ld : Option Addr) (hln : lead.length = ln) (hln2 : ln ≤ 9223372036854775807) (hLd : BoolsAt w ld lead) :
    Calls Try.prog 36 #[.slice la nl cl, .slice ra nr cr, .slice sa n sc, .slice ld ln lc] w (CountsPost L R l lead w) := by
  have hmo := matchOf_any L R nl cl nr cr la ra w hL hR sL sR hS hT hcl hcr l n sc sa hl hn hP
  unfold CountsPost
  rw [hL, hR, hln]
  go_enter Try.func36, Try.ntmps36
  go_wp2_with (go_at_call 58; refine hmo.mono ?_; clear hmo; rintro e w1 ⟨hb1, ⟨hne, rfl⟩ | ⟨hz, hmm, rfl⟩ | ⟨hz, ms, b, b0, b2, ma, mc, hmm, rfl, hch, hmv⟩⟩)
  · have h0' : ((faultM L R : Int) != 0) = true := by simp [hne]
    generalize faultM L R = z at hne h0' ⊢
    go_wp2_with fail
    exact bodyPost_ret (v := .tuple #[.slice none 0 0, .int .i64 z]) (by simp [results, Try.f36, go_sem]) rfl ⟨hb1.alloc hb1.size _, .inl ⟨hne, rfl⟩⟩
  · go_wp2_with fail
    exact bodyPost_ret (v := .tuple #[.slice none 0 0, .int .i64 9]) (by simp [results, Try.f36, go_sem]) rfl ⟨hb1.alloc hb1.size _, .inr (.inl ⟨hz, hmm, rfl⟩)⟩
  · rename_i hx
    have hll : ¬ ln = nl := fun h => by subst h; simp at hx
    have HMM := hid hmm
    clear hmm hch hmv hS hT hP sL sR hLd
    exact bodyPost_ret (v := .tuple #[.slice none 0 0, .int .i64 2]) (by simp [results, Try.f36, go_sem]) rfl ⟨hb1.alloc hb1.size _, .inr (.inr (.inl ⟨hz, ⟨ms, HMM.out⟩, hll, rfl⟩))⟩
  · rename_i hx K6 hK6
    have hxx : ((ln : Int) != (nl : Int)) = false := by assumption
    have hll : ln = nl := by
      have h : (ln : Int) = (nl : Int) := by simpa using hxx
      omega
    have hfc := match_fits hmm
    have HMM := hid hmm
    obtain ⟨l1, l2, v1, v2⟩ := fault_zero hz
    have fL := fine_of L l1 v1
    have fR := fine_of R l2 v2
    subst hll
    have hco := fun W hbW => counting_any ln cl nr cr ms.length b mc lc la ra ma ld lead ms W (by omega) (by omega) rfl (by rw [hfc.1, hl]; exact hn) hfc.2 (hmv.grown hbW) (by omega) (hLd.grown (below_then hb1 hbW))
    clear hmm hfc l1 l2 v1 v2 hch hmv hS hT hP sL sR fL fR hLd hxx
    refine (hco _ (below_alloc _ _)).mono ?_
    rintro e w2 ⟨a, cap, B, rfl, hO, hle, hb2⟩
    go_wp2_with fail
    exact bodyPost_ret (v := .tuple #[.slice a (countM lead ms ms.length).length cap, .int .i64 0]) (by simp [results, Try.f36, go_sem]) rfl ⟨below_then hb1 (below_then (below_alloc _ _) hb2), .inr ⟨ms, HMM.out, a, ⟨cap, rfl⟩, pieces_of_owns hO, hle⟩⟩

end Go.Proofs.Ytohahlnhbppnhaa
