/- The search for a rota, in numbers: what can be gone on with, and how far. -/
import Derived.Test.YtgapbaelifcifaaAB
namespace Go.Proofs.Ytgapbaelifcifaa

/-- How a search goes: whether a reporter may have a take (the last argument: is the reporter free then?); the first take that it may have again; how many reporters and takes there are. -/
structure How where
  may : Nat → Nat → Bool → Bool
  ag : Nat → Nat → Nat
  cn : Nat
  tn : Nat

variable (p : How)

/-- May these reporters have the takes from k on, one after the other, xs the reporters stand? -/
def How.path : List Nat → Nat → List Nat → Prop
  | [], _, _ => True
  | r :: rs, k, H => k < p.tn ∧ r < p.cn ∧ p.may k r (decide (H.getD r 0 ≤ k)) = true ∧ How.path rs (k + 1) (H.set r (p.ag k r))

/-- How the reporters stand behind these takes. -/
def How.after : List Nat → Nat → List Nat → List Nat
  | [], _, H => H
  | r :: rs, k, H => How.after rs (k + 1) (H.set r (p.ag k r))

variable {p}

theorem How.path_append : ∀ (xs bs : List Nat) (k : Nat) (H : List Nat), p.path (xs ++ bs) k H ↔ p.path xs k H ∧ p.path bs (k + xs.length) (p.after xs k H) := by
  intro xs
  induction xs with
  | nil => intro bs k H; simp [How.path, How.after]
  | cons a xs ih =>
    intro bs k H
    simp only [List.cons_append, How.path, How.after, ih, List.length_cons]
    rw [show k + (xs.length + 1) = k + 1 + xs.length from by omega]
    constructor
    · rintro ⟨a, b, c, d, e⟩; exact ⟨⟨a, b, c, d⟩, e⟩
    · rintro ⟨⟨a, b, c, d⟩, e⟩; exact ⟨a, b, c, d, e⟩

theorem How.after_append : ∀ (xs bs : List Nat) (k : Nat) (H : List Nat), p.after (xs ++ bs) k H = p.after bs (k + xs.length) (p.after xs k H) := by
  intro xs
  induction xs with
  | nil => intro bs k H; simp [How.after]
  | cons a xs ih =>
    intro bs k H
    simp only [List.cons_append, How.after, ih, List.length_cons]
    rw [show k + (xs.length + 1) = k + 1 + xs.length from by omega]

theorem How.path_le : ∀ (rs : List Nat) (k : Nat) (H : List Nat), k ≤ p.tn → p.path rs k H → k + rs.length ≤ p.tn := by
  intro rs
  induction rs with
  | nil => intro k H hk _; simpa using hk
  | cons r rs ih =>
    intro k H hk h
    have := ih (k + 1) _ h.1 h.2.2.2
    simp only [List.length_cons]
    omega

/-- Two standings that allow the same from a take on. -/
def Alike (k : Nat) (H H' : List Nat) : Prop := H.length = H'.length ∧ ∀ r j, k ≤ j → (H.getD r 0 ≤ j ↔ H'.getD r 0 ≤ j)

theorem Alike.set {k : Nat} {H H' : List Nat} (h : Alike k H H') (r x : Nat) : Alike (k + 1) (H.set r x) (H'.set r x) := by
  refine ⟨by simp [h.1], fun q j hj => ?_⟩
  simp only [List.getD_eq_getElem?_getD, List.getElem?_set]
  by_cases e : r = q
  · subst e
    simp [h.1]
  · simp only [e, if_false]
    have := h.2 q j (by omega)
    simpa [List.getD_eq_getElem?_getD] using this

theorem How.path_alike : ∀ (rs : List Nat) (k : Nat) (H H' : List Nat), Alike k H H' → (p.path rs k H ↔ p.path rs k H') := by
  intro rs
  induction rs with
  | nil => intro k H H' _; exact Iff.rfl
  | cons r rs ih =>
    intro k H H' h
    simp only [How.path]
    rw [ih (k + 1) _ _ (h.set r (p.ag k r)), show (decide (H.getD r 0 ≤ k)) = decide (H'.getD r 0 ≤ k) from by rw [decide_eq_decide]; exact h.2 r k (Nat.le_refl _)]

theorem alike_zM (k : Nat) (H : List Nat) : Alike k H (H.map (zM k)) := by
  refine ⟨by simp, fun r j hj => ?_⟩
  simp only [List.getD_eq_getElem?_getD, List.getElem?_map]
  cases H[r]? with
  | none => simp
  | some x =>
    simp only [Option.map_some, Option.getD_some]
    unfold zM
    split <;> omega

/-- No way on from here comes to the end, and none comes further than rc. -/
def How.dead (p : How) (rc k : Nat) (H : List Nat) : Prop := ∀ rs, p.path rs k H → k + rs.length < p.tn ∧ k + rs.length ≤ rc

theorem How.dead_mono {rc rc' k : Nat} {H : List Nat} (h : p.dead rc k H) (hle : rc ≤ rc') : p.dead rc' k H := fun rs hp => ⟨(h rs hp).1, Nat.le_trans (h rs hp).2 hle⟩

theorem How.dead_alike {rc k : Nat} {H H' : List Nat} (h : p.dead rc k H) (ha : Alike k H H') : p.dead rc k H' := fun rs hp => h rs ((How.path_alike rs k H H' ha).2 hp)

/-- The least of lists of one length, compared one by one. -/
def lexLe : List Nat → List Nat → Prop
  | [], _ => True
  | _ :: _, [] => False
  | a :: xs, b :: bs => a < b ∨ (a = b ∧ lexLe xs bs)

/-- A way on to the end, and the least one. -/
def How.best (p : How) (rs : List Nat) (k : Nat) (H : List Nat) : Prop :=
  p.path rs k H ∧ k + rs.length = p.tn ∧ ∀ qs, p.path qs k H → k + qs.length = p.tn → lexLe rs qs

/-- None of the first n reporters goes on to the end, and none further than rc. -/
def How.deadTo (p : How) (rc n k : Nat) (H : List Nat) : Prop := ∀ r, r < n → ∀ rs, p.path (r :: rs) k H → k + (r :: rs).length < p.tn ∧ k + (r :: rs).length ≤ rc

theorem How.deadTo_mono {rc rc' n k : Nat} {H : List Nat} (h : p.deadTo rc n k H) (hle : rc ≤ rc') : p.deadTo rc' n k H := fun r hr rs hp => ⟨(h r hr rs hp).1, Nat.le_trans (h r hr rs hp).2 hle⟩

theorem How.deadTo_next {rc n k : Nat} {H : List Nat} (h : p.deadTo rc n k H) (hn : ∀ rs, p.path (n :: rs) k H → k + (n :: rs).length < p.tn ∧ k + (n :: rs).length ≤ rc) : p.deadTo rc (n + 1) k H := fun r hr rs hp => by
  by_cases e : r = n
  · subst e; exact hn rs hp
  · exact h r (by omega) rs hp

theorem How.dead_of_deadTo {rc k : Nat} {H : List Nat} (h : p.deadTo rc p.cn k H) (hk : k < p.tn) (hr : k ≤ rc) : p.dead rc k H := fun rs hp => by
  cases rs with
  | nil => exact ⟨by simpa using hk, by simpa using hr⟩
  | cons r rs => exact h r hp.2.1 rs hp

theorem How.no_of_dead {rc n k : Nat} {H : List Nat} (h : p.dead rc (k + 1) (H.set n (p.ag k n))) : ∀ rs, p.path (n :: rs) k H → k + (n :: rs).length < p.tn ∧ k + (n :: rs).length ≤ rc := fun rs hp => by
  have := h rs hp.2.2.2
  simp only [List.length_cons]
  omega

theorem How.best_cons {n k rc : Nat} {H rs : List Nat} (hn : n < p.cn) (hk : k < p.tn) (hm : p.may k n (decide (H.getD n 0 ≤ k)) = true) (hd : p.deadTo rc n k H) (hb : p.best rs (k + 1) (H.set n (p.ag k n))) : p.best (n :: rs) k H := by
  obtain ⟨h1, h2, h3⟩ := hb
  refine ⟨⟨hk, hn, hm, h1⟩, by simp only [List.length_cons]; omega, fun qs hq hl => ?_⟩
  cases qs with
  | nil => simp at hl; omega
  | cons q qs =>
    by_cases e : q < n
    · have := (hd q e qs hq).1
      omega
    · by_cases e' : q = n
      · subst e'
        exact Or.inr ⟨rfl, h3 qs hq.2.2.2 (by simp only [List.length_cons] at hl; omega)⟩
      · exact Or.inl (by omega)

end Go.Proofs.Ytgapbaelifcifaa
