/- When reporters are right, pair by pair: as the program's standings have it, and as the reference looks back. -/
import Derived.Test.YtgapbaelifcifaaFI
import Derived.Test.YtgapbaelifcifaaMB
namespace Go.Proofs.Ytgapbaelifcifaa

/-- The first take behind j that begins at a second or later is at most k just if k begins then. -/
theorem nextFrom_iff {T : List (Int × Int)} {free : Int} (hasc : ∀ i j, i ≤ j → j < T.length → (T.getD i (0, 0)).1 ≤ (T.getD j (0, 0)).1) :
    ∀ (f j k : Nat), j ≤ k → k < T.length → k < j + f → (nextFrom T free f j ≤ k ↔ free ≤ (T.getD k (0, 0)).1) := by
  intro f
  induction f with
  | zero => intro j k h1 h2 h3; omega
  | succ f ih =>
    intro j k h1 h2 h3
    rw [nextFrom]
    by_cases hc : j < T.length ∧ (T.getD j (0, 0)).1 < free
    · rw [if_pos hc]
      by_cases hjk : j = k
      · subst hjk
        have hge : ∀ f j, j ≤ nextFrom T free f j := by
          intro f
          induction f with
          | zero => intro j; simp [nextFrom]
          | succ f ih2 =>
            intro j
            rw [nextFrom]
            split
            · have := ih2 (j + 1); omega
            · omega
        have := hge f (j + 1)
        constructor
        · intro h; omega
        · intro h; omega
      · exact ih (j + 1) k (by omega) h2 (by omega)
    · rw [if_neg hc]
      have h4 := hasc j k h1 h2
      have h5 : free ≤ (T.getD j (0, 0)).1 := Classical.byContradiction fun hcon => hc ⟨by omega, by omega⟩
      constructor
      · intro _; omega
      · intro _; exact h1

/-- When a reporter is free again, behind the take that it had last of the first k. -/
def standN (p : How) (R : List Nat) (r : Nat) : Nat → Nat
  | 0 => 0
  | k + 1 => if R.getD k 0 = r then p.ag k r else standN p R r k

theorem after_stand {p : How} {R : List Nat} (hr : ∀ j, j < R.length → R.getD j 0 < 5) : ∀ k, k ≤ R.length → (p.after (R.take k) 0 [0, 0, 0, 0, 0]).length = 5 ∧ ∀ r, r < 5 → (p.after (R.take k) 0 [0, 0, 0, 0, 0]).getD r 0 = standN p R r k := by
  intro k
  induction k with
  | zero =>
    intro _
    rw [List.take_zero]
    refine ⟨rfl, fun r hr => ?_⟩
    have : r = 0 ∨ r = 1 ∨ r = 2 ∨ r = 3 ∨ r = 4 := by omega
    rcases this with rfl | rfl | rfl | rfl | rfl <;> rfl
  | succ k ih =>
    intro hk
    obtain ⟨h1, h2⟩ := ih (by omega)
    have hlt : k < R.length := by omega
    have ht : R.take (k + 1) = R.take k ++ [R.getD k 0] := by
      rw [List.take_add_one]
      simp [List.getElem?_eq_getElem hlt]
    have hlen : (R.take k).length = k := by simp; omega
    rw [ht, How.after_append, hlen, Nat.zero_add, How.after, How.after]
    refine ⟨by simp [h1], fun r hr5 => ?_⟩
    rw [standN]
    have hrk := hr k hlt
    by_cases e : R.getD k 0 = r
    · rw [if_pos e, e]
      rw [List.getD_eq_getElem?_getD, List.getElem?_set_self (by omega)]
      rfl
    · rw [if_neg e, ← h2 r hr5]
      rw [List.getD_eq_getElem?_getD, List.getElem?_set_ne e, List.getD_eq_getElem?_getD]

/-- Right, take by take. -/
theorem right_iff {p : How} {R : List Nat} (hr : ∀ j, j < R.length → R.getD j 0 < 5) : ∀ (d k : Nat), k + d = R.length →
    (rightM p (R.drop k) k (p.after (R.take k) 0 [0, 0, 0, 0, 0]) = true ↔ ∀ j, k ≤ j → j < R.length → p.may j (R.getD j 0) (decide (standN p R (R.getD j 0) j ≤ j)) = true) := by
  intro d
  induction d with
  | zero =>
    intro k hk
    rw [List.drop_eq_nil_of_le (by omega)]
    exact ⟨fun _ j h1 h2 => by omega, fun _ => rfl⟩
  | succ d ih =>
    intro k hk
    have hlt : k < R.length := by omega
    rw [right_drop hlt, Bool.and_eq_true, (after_stand hr k (by omega)).2 _ (hr k hlt)]
    have ht : R.take (k + 1) = R.take k ++ [R.getD k 0] := by
      rw [List.take_add_one]
      simp [List.getElem?_eq_getElem hlt]
    have hlen : (R.take k).length = k := by simp; omega
    have hA : p.after (R.take (k + 1)) 0 [0, 0, 0, 0, 0] = (p.after (R.take k) 0 [0, 0, 0, 0, 0]).set (R.getD k 0) (p.ag k (R.getD k 0)) := by
      rw [ht, How.after_append, hlen, Nat.zero_add, How.after, How.after]
    rw [← hA, ih (k + 1) (by omega)]
    constructor
    · rintro ⟨h1, h2⟩ j hj1 hj2
      by_cases e : j = k
      · subst e; exact h1
      · exact h2 j (by omega) hj2
    · intro h
      exact ⟨h k (Nat.le_refl _) hlt, fun j hj1 hj2 => h j (by omega) hj2⟩

theorem right_all {p : How} {R : List Nat} (hr : ∀ j, j < R.length → R.getD j 0 < 5) :
    rightM p R 0 [0, 0, 0, 0, 0] = true ↔ ∀ j, j < R.length → p.may j (R.getD j 0) (decide (standN p R (R.getD j 0) j ≤ j)) = true := by
  have := right_iff (p := p) hr R.length 0 (by omega)
  rw [List.drop_zero, List.take_zero] at this
  rw [show ([0, 0, 0, 0, 0] : List Nat) = p.after [] 0 [0, 0, 0, 0, 0] from rfl, this]
  exact ⟨fun h j hj => h j (Nat.zero_le _) hj, fun h j _ hj => h j hj⟩

/-- The worst end of a take, and rest: when its reporter is surely free. -/
def freeW (delay : Int) (C : List (Int × Int × Int)) (T : List (Int × Int)) (i r : Nat) : Int := doneM T i (C.getD r (0, 0, 0)).2.1 delay + (C.getD r (0, 0, 0)).2.2

/-- Looking back from take k for the take that the reporter had last: is it free? -/
def lookN (delay : Int) (C : List (Int × Int × Int)) (T : List (Int × Int)) (R : List Nat) (k r : Nat) : Nat → Bool
  | 0 => true
  | i + 1 => if R.getD i 0 = r then decide (freeW delay C T i r ≤ (T.getD k (0, 0)).1) else lookN delay C T R k r i

theorem asc_starts {f t : Int} {T : List (Int × Int)} (h : Asc f t T) : ∀ i j, i ≤ j → j < T.length → (T.getD i (0, 0)).1 ≤ (T.getD j (0, 0)).1 := by
  intro i j hij
  induction j with
  | zero => intro _; rw [show i = 0 by omega]; exact Int.le_refl _
  | succ j ih =>
    intro hj
    by_cases e : i = j + 1
    · subst e; exact Int.le_refl _
    · have h1 := ih (by omega) (by omega)
      have h2 := h.next hj
      have h3 := h.at (i := j) (by omega)
      omega

theorem stand_look {due delay : Int} {C : List (Int × Int × Int)} {T : List (Int × Int)} {R : List Nat} {f t : Int} (h : Asc f t T) {k r : Nat} (hk : k < T.length) : ∀ i, i ≤ k →
    decide (standN (howOf due delay C T) R r i ≤ k) = lookN delay C T R k r i := by
  intro i
  induction i with
  | zero => intro _; simp [standN, lookN]
  | succ i ih =>
    intro hi
    rw [standN, lookN]
    by_cases e : R.getD i 0 = r
    · rw [if_pos e, if_pos e]
      have := nextFrom_iff (free := freeW delay C T i r) (asc_starts h) (T.length - (i + 1)) (i + 1) k (by omega) hk (by omega)
      exact decide_eq_decide.2 this
    · rw [if_neg e, if_neg e]
      exact ih (by omega)

/-- A list of reporters is right: take by take, looking back. -/
def rotaOk (due delay : Int) (C : List (Int × Int × Int)) (T : List (Int × Int)) (R : List Nat) (k : Nat) : Bool :=
  decide (doneM T k (C.getD (R.getD k 0) (0, 0, 0)).2.1 delay ≤ (T.getD k (0, 0)).2 + due) && lookN delay C T R k (R.getD k 0) k

theorem right_rota {due delay : Int} {C : List (Int × Int × Int)} {T : List (Int × Int)} {R : List Nat} {f t : Int} (h : Asc f t T) (hl : R.length = T.length) (hr : ∀ j, j < R.length → R.getD j 0 < 5) :
    rightM (howOf due delay C T) R 0 [0, 0, 0, 0, 0] = (List.range R.length).all fun k => rotaOk due delay C T R k := by
  rw [Bool.eq_iff_iff, right_all hr, List.all_eq_true]
  constructor
  · intro hh k hk
    have hk' : k < R.length := by simpa using hk
    have := hh k hk'
    rw [stand_look h (by omega) k (Nat.le_refl _)] at this
    simp only [howOf, Bool.and_eq_true, decide_eq_true_eq] at this
    unfold rotaOk
    rw [Bool.and_eq_true, decide_eq_true_eq]
    exact ⟨this.2, this.1⟩
  · intro hh k hk
    have := hh k (by simpa using hk)
    unfold rotaOk at this
    rw [Bool.and_eq_true, decide_eq_true_eq] at this
    rw [stand_look h (by omega) k (Nat.le_refl _)]
    simp only [howOf, Bool.and_eq_true, decide_eq_true_eq]
    exact ⟨this.2, this.1⟩

end Go.Proofs.Ytgapbaelifcifaa
