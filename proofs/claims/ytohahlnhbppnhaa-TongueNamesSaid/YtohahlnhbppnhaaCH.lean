/- Tongue: a table's number at a place; whether a table is right. -/
import Derived.Test.YtohahlnhbppnhaaCG
import Derived.Test.YtohahlnhbppnhaaBT
namespace Go.Proofs.Ytohahlnhbppnhaa
open Go.RowKit
set_option linter.unusedSimpArgs false
set_option linter.unusedVariables false

def gridF (T : List (List Int)) (i k : Nat) : Int := (T.getD i []).getD k 0

set_option maxHeartbeats 1000000 in
theorem number_any (T : List (List Int)) (i k t tc M tb : Nat) (ta : Option Addr) (w : World) (hc : w.cell? ⟨tb, 0, none⟩ = some (.slice ta t tc)) (hG : GridAt w ta T) (hT : T.length = t) (hi : i < t) (hM : (T.getD i []).length = M) (hk : k < M) (hb : t ≤ 1000000) (hb2 : M ≤ 1000000) :
    Calls Try.prog 93 #[.agg #[.int .i64 (i : Int), .int .i64 (k : Int)], .pointer (some ⟨tb, 0, none⟩)] w fun e w' => e = .returned (.int .i64 (gridF T i k)) ∧ Below w.heap.size w w' := by
  obtain ⟨b, off, ra, rc, ea, c0, hI⟩ := hG i (by rw [hT]; exact hi)
  rw [hM] at c0
  obtain ⟨rb, ro, er, c1⟩ := hI k (by rw [hM]; exact hk)
  subst ea er
  have hgf : (T.getD i []).getD k 0 = gridF T i k := rfl
  rw [hgf] at c1
  generalize gridF T i k = z at c1 ⊢
  obtain ⟨W0, hW0⟩ : ∃ X, X = w.alloc (.cells #[.int .i64 (i : Int), .int .i64 (k : Int)] 150) := ⟨_, rfl⟩
  have hB0 : Below w.heap.size w W0 := by rw [hW0]; exact below_alloc _ _
  have p0 : W0.cell? ⟨w.heap.size, 0, none⟩ = some (.int .i64 (i : Int)) := by rw [hW0]; simp [go_sem]
  have p1 : W0.cell? ⟨w.heap.size, 1, none⟩ = some (.int .i64 (k : Int)) := by rw [hW0]; simp [go_sem]
  replace hc := cell_grown hB0 hc
  replace c0 := cell_grown hB0 c0
  replace c1 := cell_grown hB0 c1
  have HW0 := hid hW0
  have i0 : (0 : Int) ≤ (i : Int) := by omega
  have i1 : (i : Int) < (t : Int) := by omega
  have k0 : (0 : Int) ≤ (k : Int) := by omega
  have k1 : (k : Int) < (M : Int) := by omega
  have g0 := lt_of_cell p0
  have g1 := lt_of_cell hc
  have g2 := lt_of_cell c0
  have g3 := lt_of_cell c1
  clear hG hT hM hI hW0 hgf
  go_enter Try.func93, Try.ntmps93
  go_upto_region 1 with (fail)
  rw [← HW0.out]
  have oa : ∀ p : Over W0, p.w.cell? ⟨w.heap.size, 0, none⟩ = some (.int .i64 (i : Int)) := fun p => p.cell p0
  have ob : ∀ p : Over W0, p.w.cell? ⟨w.heap.size, 1, none⟩ = some (.int .i64 (k : Int)) := fun p => p.cell p1
  have oc : ∀ p : Over W0, p.w.cell? ⟨tb, 0, none⟩ = some (.slice (some ⟨b, off, none⟩) t tc) := fun p => p.cell hc
  have od : ∀ p : Over W0, p.w.cell? ⟨b, off + i, none⟩ = some (.slice (some ⟨rb, ro, none⟩) M rc) := fun p => p.cell c0
  have oe : ∀ p : Over W0, p.w.cell? ⟨rb, ro + k, none⟩ = some (.int .i64 z) := fun p => p.cell c1
  refine wp_region_over W0 (Below.refl _ _) (by kernel_rfl) (by kernel_rfl) ?_
  repeat (go_big_quiet_step (fail))
  refine wpQuiet_nil ?_
  intro wz hw'
  have hbz := over_below hw'
  clear hw' oa ob oc od oe
  go_wp2_with fail
  go_ret
  exact ⟨rfl, below_then hB0 hbz⟩

/-- Whether no number of the table is above the one from which a step comes, and the step's price. -/
def okStep (L R : List Sen) (f : Nat → Nat → Int) (i k : Nat) (s : Nat × Nat) : Bool := decide (f (i + s.1) (k + s.2) ≤ f i k + (priceAt L R i k s : Int))
def okPlace (L R : List Sen) (f : Nat → Nat → Int) (nl nr : Nat) (x : Nat × Nat) : Bool := (movesM nl nr x.1 x.2).all (okStep L R f x.1 x.2)
def rightB (L R : List Sen) (f : Nat → Nat → Int) (nl nr : Nat) : Bool := (placesM nl nr).all (okPlace L R f nl nr)
def provesB (L R : List Sen) (f : Nat → Nat → Int) (nl nr : Nat) (cost : Int) : Bool := rightB L R f nl nr && (decide (f 0 0 = 0) && decide (f nl nr = cost))

theorem rightB_iff (L R : List Sen) (f : Nat → Nat → Int) : rightB L R f L.length R.length = true ↔ Right L R f := by
  unfold rightB okPlace okStep Right
  rw [List.all_eq_true]
  constructor
  · intro h i k hi hk s hs
    have := h (i, k) (mem_places hi hk)
    rw [List.all_eq_true] at this
    simpa using this s hs
  · intro h x hx
    rw [List.all_eq_true]
    intro s hs
    obtain ⟨h1, h2⟩ := mem_rowsM.1 hx
    simpa using h x.1 x.2 (by omega) h2 s hs

theorem rightB_false {L R : List Sen} {f : Nat → Nat → Int} {nl nr : Nat} {x s : Nat × Nat} (hx : x ∈ placesM nl nr) (hs : s ∈ movesM nl nr x.1 x.2) (h : okStep L R f x.1 x.2 s = false) : rightB L R f nl nr = false := by
  unfold rightB
  rw [← Bool.not_eq_true, List.all_eq_true]
  intro hh
  have h1 := hh x hx
  unfold okPlace at h1
  rw [List.all_eq_true] at h1
  rw [h1 s hs] at h
  cases h

end Go.Proofs.Ytohahlnhbppnhaa
