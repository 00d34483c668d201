/- Mend: what is known of a request that is accepted, in numbers. -/
import Derived.Test.YtbampfkmgjfofaaGreatDoorBF
namespace Go.Proofs.YtbampfkmgjfofaaGreatDoor
open Go.RowKit

theorem verdict_zero {al : Ask → Int} {V : List Ask} {x : Ask} (h : verdictA al V x = 0) : al x = 0 := by
  unfold verdictA at h
  split at h
  · assumption
  · exact absurd h ‹_›

theorem step_keeps {al : Ask → Int} {st : (Nat → Int) × List Ask} {x : Ask} {i : Nat} (h : st.1 i ≠ 0) : (stepA al st x).1 i ≠ 0 := by
  unfold stepA
  split
  · exact h
  · rename_i hv
    simp only
    split
    · exact hv
    · exact h

theorem fold_keeps {al : Ask → Int} {i : Nat} : ∀ (A : List Ask) (st : (Nat → Int) × List Ask), st.1 i ≠ 0 → (A.foldl (stepA al) st).1 i ≠ 0
  | [], _, h => h
  | x :: A, st, h => fold_keeps A (stepA al st x) (step_keeps h)

theorem fold_zero {al : Ask → Int} {i : Nat} : ∀ (A : List Ask) (st : (Nat → Int) × List Ask), (A.foldl (stepA al) st).1 i = 0 → ∀ x ∈ A, x.i = i → al x = 0
  | [], _, _, x, hx, _ => by cases hx
  | y :: A, st, h, x, hx, hi => by
    rcases List.mem_cons.1 hx with rfl | hx
    · apply Classical.byContradiction
      intro ha
      have hv : ¬ verdictA al st.2 x = 0 := fun e => ha (verdict_zero e)
      have : (stepA al st x).1 i ≠ 0 := by
        unfold stepA
        rw [if_neg hv]
        simp only [hi, if_true]
        exact hv
      exact fold_keeps A _ this h
    · exact fold_zero A _ h x hx hi

/-- Is the word that there is at the place the member's? -/
def ownZ (R : List (Tx × Int)) (b k : Int) : Bool := inB k 0 ((R.length : Int) - 1) && decide ((R.getD k.toNat (.empty, 0)).2 = b)

theorem ownZ_of {R : List (Tx × Int)} {b : Int} {t : Nat} {x : Tx × Int} (h : R[t]? = some x) (hb : x.2 = b) : ownZ R b t = true := by
  obtain ⟨hl, _⟩ := List.getElem?_eq_some_iff.1 h
  unfold ownZ
  rw [Bool.and_eq_true, decide_eq_true_eq]
  refine ⟨by simp [inB]; omega, ?_⟩
  rw [Int.toNat_natCast, List.getD_eq_getElem?_getD, h]
  exact hb

/-- What is known of a request that is accepted. -/
structure OwnOk (R : List (Tx × Int)) (out win : Int) (q : Req) : Prop where
  f0 : 0 ≤ q.f
  c0 : 0 ≤ q.c
  c8 : q.c ≤ 8
  fc : q.f + q.c ≤ R.length
  lo : out ≤ q.m
  hi : q.m ≤ out + win
  own : ∀ k : Int, q.f ≤ k → k < q.f + q.c → ownZ R q.b k = true
  beside : ∃ k : Int, q.f - 1 ≤ k ∧ k ≤ q.f + q.c ∧ ownZ R q.b k = true

theorem alone_zero {E : List Ent} {S : List (Int × Int × Int)} {R : List (Tx × Int)} {out win : Int} {L : List Req} {x : Ask} (h : aloneM E S R out win L x = 0) : ∀ k, k < 5 → zM E S R out win (L.getD x.i default).put x k = false := by
  unfold aloneM at h
  simp only at h
  generalize zM E S R out win (L.getD x.i default).put x = z at h
  have h0 : z 0 = false := by
    cases e : z 0
    · rfl
    · rw [if_pos e] at h; exact absurd h (by decide)
  rw [if_neg (by rw [h0]; simp)] at h
  have h1 : z 1 = false := by
    cases e : z 1
    · rfl
    · rw [if_pos e] at h; exact absurd h (by decide)
  rw [if_neg (by rw [h1]; simp)] at h
  have h2 : z 2 = false := by
    cases e : z 2
    · rfl
    · rw [if_pos e] at h; exact absurd h (by decide)
  rw [if_neg (by rw [h2]; simp)] at h
  have h3 : z 3 = false := by
    cases e : z 3
    · rfl
    · rw [if_pos e] at h; exact absurd h (by decide)
  rw [if_neg (by rw [h3]; simp)] at h
  have h4 : z 4 = false := by
    cases e : z 4
    · rfl
    · rw [if_pos e] at h; exact absurd h (by decide)
  intro k hk
  rcases (by omega : k = 0 ∨ k = 1 ∨ k = 2 ∨ k = 3 ∨ k = 4) with rfl | rfl | rfl | rfl | rfl <;> assumption

theorem alone_own {E : List Ent} {S : List (Int × Int × Int)} {R : List (Tx × Int)} {out win : Int} {L : List Req} {x : Ask} {q : Req} (h : aloneM E S R out win L x = 0) (e1 : x.b = q.b) (e2 : x.m = q.m) (e3 : x.f = q.f) (e4 : x.c = q.c) : OwnOk R out win q := by
  have hz := alone_zero h
  have z0 : missesM R.length x = false := hz 0 (by decide)
  have z1 : malformedM (L.getD x.i default).put x = false := hz 1 (by decide)
  have z2 : meddlesM R x.b x.f.toNat x.c.toNat = false := hz 2 (by decide)
  have z3 : lateM out win x = false := hz 3 (by decide)
  obtain ⟨m1, m2, m3⟩ := misses_not z0
  have c8 : x.c ≤ 8 := by
    unfold malformedM at z1
    rw [Bool.or_eq_false_iff] at z1
    have := z1.1
    rw [decide_eq_false_iff_not] at this
    omega
  have hl : out ≤ x.m ∧ x.m ≤ out + win := by
    unfold lateM inB at z3
    simpa using z3
  rw [e1, e3, e4] at z2
  rw [e4] at m1 c8
  rw [e3] at m2
  rw [e3, e4] at m3
  rw [e2] at hl
  obtain ⟨l, hlf⟩ : ∃ l : Nat, q.f = l := ⟨q.f.toNat, by omega⟩
  obtain ⟨k, hkc⟩ : ∃ k : Nat, q.c = k := ⟨q.c.toNat, by omega⟩
  rw [hlf, hkc, Int.toNat_natCast, Int.toNat_natCast] at z2
  rw [hlf, hkc] at m3
  unfold meddlesM at z2
  have own : ∀ j : Int, (l : Int) ≤ j → j < l + k → ownZ R q.b j = true := by
    intro j hj1 hj2
    rw [if_pos (by omega)] at z2
    simp only [Bool.not_eq_false', List.all_eq_true, decide_eq_true_eq] at z2
    obtain ⟨t, ht⟩ : ∃ t : Nat, j = l + t := ⟨(j - l).toNat, by omega⟩
    subst ht
    have hlt : l + t < R.length := by omega
    have hg : R[l + t]? = some R[l + t] := List.getElem?_eq_getElem hlt
    have hm : R[l + t] ∈ (R.drop l).take k := by
      apply List.mem_of_getElem? (i := t)
      rw [List.getElem?_take_of_lt (by omega), List.getElem?_drop]
      exact hg
    have := ownZ_of hg (z2 _ hm)
    rwa [Int.natCast_add] at this
  refine ⟨m2, m1, c8, by rw [hlf, hkc]; exact m3, hl.1, hl.2, fun j h1 h2 => own j (by omega) (by omega), ?_⟩
  by_cases hk : 0 < k
  · exact ⟨l, by omega, by omega, own l (by omega) (by omega)⟩
  · rw [if_neg hk] at z2
    simp only [Bool.not_eq_false', List.any_eq_true, decide_eq_true_eq] at z2
    obtain ⟨y, hy, hyb⟩ := z2
    obtain ⟨t, ht⟩ := List.mem_iff_getElem?.1 hy
    have htl : t < min (l + 1) R.length - (l - 1) := by
      have h1 := (List.getElem?_eq_some_iff.1 ht).1
      rw [List.length_take] at h1
      omega
    rw [List.getElem?_take_of_lt htl, List.getElem?_drop] at ht
    exact ⟨((l - 1 + t : Nat) : Int), by omega, by omega, ownZ_of ht hyb⟩

end Go.Proofs.YtbampfkmgjfofaaGreatDoor
