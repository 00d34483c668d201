/- Tongue, the laws in numbers: a speech with more, where it lies. -/
import Derived.Test.YtohahlnhbppnhaaBF
namespace Go.Proofs.Ytohahlnhbppnhaa
open Go.RowKit
set_option linter.unusedSimpArgs false
set_option linter.unusedVariables false

/-- Numbers of 16 bits, as they lie in memory. -/
def WordsAt (w : World) (a : Option Addr) (L : List Int) : Prop :=
  ∀ i, i < L.length → ∃ b off, a = some ⟨b, off, none⟩ ∧ w.cell? ⟨b, off + i, none⟩ = some (.int .u16 (L.getD i 0)) ∧ 0 ≤ L.getD i 0 ∧ L.getD i 0 ≤ 65535

theorem WordsAt.grown {w w' : World} {a : Option Addr} {L : List Int} (h : WordsAt w a L) (hb : Below w.heap.size w w') : WordsAt w' a L := fun i hi => by
  obtain ⟨b, off, ea, c, h1, h2⟩ := h i hi
  exact ⟨b, off, ea, cell_grown hb c, h1, h2⟩

/-- A row of pairs of the call's own, cell by cell. -/
theorem owns_rowIs {W : World} {B n cap : Nat} {a : Option Addr} {T : List (Int × Int)} (h : W.ownsRow B 85 2 (.slice a n cap) n (flatP T)) (hT : T.length = n) (h0 : 0 < n) :
    ∃ (g m : Nat) (f : Nat → Value), a = some ⟨g, 0, none⟩ ∧ B ≤ g ∧ W.rowIs g 85 m f ∧ n * 2 ≤ m ∧ ∀ i, i < n → f (i * 2) = .int .i64 (T.getD i (0, 0)).1 ∧ f (i * 2 + 1) = .int .i64 (T.getD i (0, 0)).2 := by
  rcases h.2 with ⟨hv, hn⟩ | ⟨g, cap', cur, hv, hbg, hg, hnc, hcm, hcs, htake⟩
  · omega
  · simp only [Value.slice.injEq] at hv
    obtain ⟨rfl, -, rfl⟩ := hv
    refine ⟨g, cur.size, fun i => (cur[i]?).getD undef, rfl, hbg, ⟨cur, hg, rfl, fun i hi => ?_⟩, by rw [hcs]; exact Nat.mul_le_mul_right _ hnc, fun i hi => ?_⟩
    · simp only [Array.getElem?_eq_getElem hi, Option.getD_some]
    · have hk : ∀ j u, (flatP T)[j]? = some u → cur[j]? = some u := fun j u hj => by
        rw [← htake, List.getElem?_take] at hj
        split at hj
        · rw [← Array.getElem?_toList]; exact hj
        · cases hj
      obtain ⟨e1, e2⟩ := flatP_get T i (by omega)
      show ((cur[i * 2]?).getD undef) = _ ∧ ((cur[i * 2 + 1]?).getD undef) = _
      rw [hk _ _ e1, hk _ _ e2]
      exact ⟨rfl, rfl⟩

/-- With one pair changed. -/
theorem pairs_of_set {W : World} {g m k n : Nat} {f : Nat → Value} {T : List (Int × Int)} {x y : Int} (hT : T.length = n) (hk : k < n) (hm : n * 2 ≤ m) (hf : ∀ i, i < n → f (i * 2) = .int .i64 (T.getD i (0, 0)).1 ∧ f (i * 2 + 1) = .int .i64 (T.getD i (0, 0)).2)
    (h : W.rowIs g 85 m (fun j => if j = k * 2 then .int .i64 x else if j = k * 2 + 1 then .int .i64 y else f j)) : PairsAt W (some ⟨g, 0, none⟩) (T.set k (x, y)) := by
  intro i hi
  rw [List.length_set] at hi
  refine ⟨g, 0, rfl, ?_, ?_⟩
  · have := h.cell (i := i * 2) (by omega)
    rw [Nat.zero_add, this]
    rw [getD_set _ _ _ _ _ (by omega)]
    by_cases e : i = k
    · subst e; simp
    · rw [if_neg e, if_neg (by omega), if_neg (by omega), (hf i (by omega)).1]
  · have := h.cell (i := i * 2 + 1) (by omega)
    rw [Nat.zero_add, this]
    rw [getD_set _ _ _ _ _ (by omega)]
    by_cases e : i = k
    · subst e; simp
    · rw [if_neg e, if_neg (by omega), if_neg (by omega), (hf i (by omega)).2]

/-- A speech with a greater lag. -/
def lagged (s : Spoken) (lag : Int) : Spoken := ⟨s.starts, min 60 (s.lag + lag), s.needs⟩

theorem lagged_val {s : Spoken} (hv : valP s = true) {lag : Int} (hl : 0 ≤ lag) : valP (lagged s lag) = true := by
  obtain ⟨h1, h2, h3, h4, h5, h6⟩ := valP_parts hv
  unfold valP at hv ⊢
  simp only [Bool.and_eq_true, decide_eq_true_eq] at hv ⊢
  refine ⟨hv.1, hv.2.1, ?_, hv.2.2.2.1, hv.2.2.2.2⟩
  have e : (lagged s lag).lag = min 60 (s.lag + lag) := rfl
  rw [e]
  unfold inB
  rw [decide_eq_true_eq]
  exact ⟨by omega, by omega⟩

end Go.Proofs.Ytohahlnhbppnhaa
