/- The reference's way to cut a stretch, in numbers; a store into a slice that the call owns. -/
import Derived.Test.YtgapbaelifcifaaCH
import Derived.Test.YtgapbaelifcifaaMA
namespace Go.Proofs.Ytgapbaelifcifaa
open Go.RowKit

/-- Amid a stretch: these pieces are cut, from here on not. -/
def Mid (long short f t : Int) (q : List (Int × Int)) (z : Int) : Prop :=
  (piecesOf long short (f, t) = q ++ cutS long short (t - z).toNat z t ∧ (q ≠ [] → short ≤ t - z) ∧ z < t) ∨
  (∃ q' a, q = q' ++ [(a, z)] ∧ piecesOf long short (f, t) = q' ++ [(a, t)] ∧ 0 ≤ t - z ∧ t - z < short)

theorem mid_start {long short f t : Int} (h : f < t) : Mid long short f t [] f := .inl ⟨rfl, fun h => absurd rfl h, h⟩

theorem mid_step {long short f t : Int} {q : List (Int × Int)} {z : Int} (hs : 1 ≤ short) (hl : short ≤ long) (h : Mid long short f t q z) (hz : long ≤ t - z) : Mid long short f t (q ++ [(z, z + long)]) (z + long) := by
  rcases h with ⟨h1, h2, h3⟩ | ⟨q', a, _, _, _, h4⟩
  · have hst := cutS_step (long := long) (short := short) (by omega) h3
    by_cases hc : t - (z + long) < short
    · simp only [if_pos hc] at hst
      rw [cutS_done _ (by omega : ¬ t < t)] at hst
      exact .inr ⟨q, z, rfl, by rw [h1, hst], by omega, hc⟩
    · simp only [if_neg hc] at hst
      exact .inl ⟨by rw [h1, hst]; simp, fun _ => by omega, by omega⟩
  · omega

theorem mid_put {long short f t : Int} {q : List (Int × Int)} {z : Int} (hs : 1 ≤ short) (hl : short ≤ long) (h : Mid long short f t q z) (hz : t - z < long) (_ : 0 < t - z) (hc : short ≤ t - z ∨ q = []) : piecesOf long short (f, t) = q ++ [(z, t)] := by
  rcases h with ⟨h1, _, h3⟩ | ⟨q', a, hq, _, _, h4⟩
  · have hst := cutS_step (long := long) (short := short) (by omega) h3
    simp only [if_pos (show t - (z + long) < short by omega)] at hst
    rw [cutS_done _ (by omega : ¬ t < t)] at hst
    rw [h1, hst]
  · rcases hc with hc | hc
    · omega
    · rw [hq] at hc; simp at hc

theorem mid_stretch {long short f t : Int} {q : List (Int × Int)} {z : Int} (h : Mid long short f t q z) (hc : ¬ short ≤ t - z) (hq : q ≠ []) : ∃ q' a, q = q' ++ [(a, z)] ∧ piecesOf long short (f, t) = q' ++ [(a, t)] := by
  rcases h with ⟨_, h2, _⟩ | ⟨q', a, h1, h2, _, _⟩
  · exact absurd (h2 hq) hc
  · exact ⟨q', a, h1, h2⟩

theorem mid_done {long short f t : Int} {q : List (Int × Int)} {z : Int} (h : Mid long short f t q z) (h0 : ¬ 0 < t - z) : piecesOf long short (f, t) = q := by
  rcases h with ⟨_, _, h3⟩ | ⟨q', a, h1, h2, h3, _⟩
  · omega
  · rw [h2, h1, show z = t by omega]

theorem ownsRow_setAt {w : World} {base : Nat} {e : TypeId} {size g n cap i : Nat} {xs : List Value} (h : w.ownsRow base e size (.slice (some ⟨g, 0, none⟩) n cap) n xs) (_ : i < n * size) (u : Value) :
    (w.setCell ⟨g, i, none⟩ u).ownsRow base e size (.slice (some ⟨g, 0, none⟩) n cap) n (xs.set i u) := by
  obtain ⟨h1, h2⟩ := h
  rcases h2 with ⟨h0, _⟩ | ⟨g', cap', cur, hv, hg, hh, hn, hcap, hsz, htake⟩
  · cases h0
  · cases hv
    refine ⟨by rw [List.length_set]; exact h1, .inr ⟨g, cap, cur.setIfInBounds i u, rfl, hg, heap_setCell_same w g i cur e u hh, hn, hcap, by rw [Array.size_setIfInBounds]; exact hsz, ?_⟩⟩
    rw [Array.toList_setIfInBounds, List.take_set, htake]

theorem flat2_set (xs : List (Int × Int)) (a z t : Int) : (flat2 (xs ++ [(a, z)])).set (xs.length * 2 + 1) (.int .i64 t) = flat2 (xs ++ [(a, t)]) := by
  rw [flat2_append, flat2_append, List.set_append_right _ _ (by rw [flat2_length]; omega), flat2_length]
  rw [show xs.length * 2 + 1 - xs.length * 2 = 1 from by omega]
  rfl

end Go.Proofs.Ytgapbaelifcifaa
