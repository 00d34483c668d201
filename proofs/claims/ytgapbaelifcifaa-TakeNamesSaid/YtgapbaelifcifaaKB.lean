/- What the reference's Rota finds, against the program's search. -/
import Derived.Test.YtgapbaelifcifaaKA
import Derived.Test.YtgapbaelifcifaaHA
namespace Go.Proofs.Ytgapbaelifcifaa
open Go.RowKit

/-- Each beginning is as it should be. -/
def Fits (ok : List Nat → Bool) (cn : Nat) : List Nat → List Nat → Prop
  | _, [] => True
  | B, r :: rs => r < cn ∧ ok (B ++ [r]) = true ∧ Fits ok cn (B ++ [r]) rs

theorem find_range {α : Type} {f : Nat → Option α} : ∀ (cn : Nat), (∀ b, (List.range cn).findSome? f = some b → ∃ r, r < cn ∧ f r = some b ∧ ∀ j, j < r → f j = none) ∧ ((List.range cn).findSome? f = none → ∀ r, r < cn → f r = none) := by
  intro cn
  induction cn with
  | zero => exact ⟨fun b h => by simp at h, fun _ r h => by omega⟩
  | succ cn ih =>
    rw [List.range_succ, List.findSome?_append]
    constructor
    · intro b h
      cases hx : (List.range cn).findSome? f with
      | some y =>
        rw [hx] at h
        simp at h
        subst h
        obtain ⟨r, h1, h2, h3⟩ := ih.1 _ hx
        exact ⟨r, by omega, h2, h3⟩
      | none =>
        rw [hx] at h
        simp at h
        exact ⟨cn, by omega, h, fun j hj => ih.2 hx j hj⟩
    · intro h r hr
      cases hx : (List.range cn).findSome? f with
      | some y => rw [hx] at h; simp at h
      | none =>
        rw [hx] at h
        simp at h
        by_cases e : r = cn
        · subst e; exact h
        · exact ih.2 hx r (by omega)

theorem dfs_spec (ok : List Nat → Bool) (cn : Nat) : ∀ (d : Nat) (B : List Nat),
    (∀ X, dfs ok cn d B = some X → ∃ rs, X = B ++ rs ∧ rs.length = d ∧ Fits ok cn B rs ∧ ∀ qs, qs.length = d → Fits ok cn B qs → lexLe rs qs) ∧ (dfs ok cn d B = none → ∀ qs, qs.length = d → ¬ Fits ok cn B qs) := by
  intro d
  induction d with
  | zero =>
    intro B
    refine ⟨fun X h => ⟨[], ?_, rfl, trivial, fun qs _ _ => trivial⟩, fun h => by simp [dfs] at h⟩
    simp [dfs] at h
    simp [h]
  | succ d ih =>
    intro B
    have hr := find_range (f := fun r => if ok (B ++ [r]) then dfs ok cn d (B ++ [r]) else none) cn
    have hd : dfs ok cn (d + 1) B = (List.range cn).findSome? fun r => if ok (B ++ [r]) then dfs ok cn d (B ++ [r]) else none := rfl
    rw [← hd] at hr
    constructor
    · intro X h
      obtain ⟨r, h1, h2, h3⟩ := hr.1 X h
      by_cases ho : ok (B ++ [r]) = true
      · rw [if_pos ho] at h2
        obtain ⟨rs, e1, e2, e3, e4⟩ := (ih (B ++ [r])).1 X h2
        refine ⟨r :: rs, by rw [e1]; simp, by rw [List.length_cons, e2], ⟨h1, ho, e3⟩, fun qs hq hf => ?_⟩
        cases qs with
        | nil => simp at hq
        | cons q qs =>
          obtain ⟨f1, f2, f3⟩ := hf
          have hq' : qs.length = d := by simpa using hq
          by_cases hlt : q < r
          · have hn := h3 q hlt
            simp only [f2, if_true] at hn
            exact absurd f3 ((ih (B ++ [q])).2 hn qs hq')
          · by_cases he : r = q
            · subst he
              exact Or.inr ⟨rfl, e4 qs hq' f3⟩
            · exact Or.inl (by omega)
      · rw [if_neg ho] at h2
        cases h2
    · intro h qs hq hf
      cases qs with
      | nil => simp at hq
      | cons q qs =>
        obtain ⟨f1, f2, f3⟩ := hf
        have hn := hr.2 h q f1
        simp only [f2, if_true] at hn
        exact (ih (B ++ [q])).2 hn qs (by simpa using hq) f3

theorem look_prefix {delay : Int} {C : List (Int × Int × Int)} {T : List (Int × Int)} {R R' : List Nat} {k r : Nat} : ∀ i, (∀ j, j < i → R.getD j 0 = R'.getD j 0) → lookN delay C T R k r i = lookN delay C T R' k r i := by
  intro i
  induction i with
  | zero => intro _; rfl
  | succ i ih =>
    intro h
    rw [lookN, lookN, h i (by omega), ih fun j hj => h j (by omega)]

theorem rota_prefix {due delay : Int} {C : List (Int × Int × Int)} {T : List (Int × Int)} {R R' : List Nat} {k : Nat} (h : ∀ j, j ≤ k → R.getD j 0 = R'.getD j 0) : rotaOk due delay C T R k = rotaOk due delay C T R' k := by
  unfold rotaOk
  rw [h k (Nat.le_refl _), look_prefix k fun j hj => h j (by omega)]

theorem getD_app {B rs : List Nat} {j : Nat} (hj : j < B.length) : (B ++ rs).getD j 0 = B.getD j 0 := by
  rw [List.getD_eq_getElem?_getD, List.getElem?_append_left hj, ← List.getD_eq_getElem?_getD]

/-- Fitting, in terms of the takes. -/
theorem fits_iff (no due delay : Int) (C : List (Int × Int × Int)) (T : List (Int × Int)) (cn : Nat) : ∀ (rs B : List Nat),
    Fits (okM no due delay C T) cn B rs ↔ (∀ r ∈ rs, r < cn ∧ (r : Int) ≠ no) ∧ ∀ k, B.length ≤ k → k < B.length + rs.length → rotaOk due delay C T (B ++ rs) k = true := by
  intro rs
  induction rs with
  | nil => intro B; exact ⟨fun _ => ⟨fun r h => by simp at h, fun k h1 h2 => by simp at h2; omega⟩, fun _ => trivial⟩
  | cons r rs ih =>
    intro B
    simp only [Fits]
    rw [ih (B ++ [r]), okM_last]
    have hap : B ++ [r] ++ rs = B ++ r :: rs := by simp
    have hl : (B ++ [r]).length = B.length + 1 := by simp
    have hpre : rotaOk due delay C T (B ++ [r]) B.length = rotaOk due delay C T (B ++ r :: rs) B.length := rota_prefix fun j hj => by rw [← hap]; exact (getD_app (B := B ++ [r]) (rs := rs) (by rw [hl]; omega)).symm
    rw [hap, hl, hpre, Bool.and_eq_true]
    simp only [List.length_cons, List.mem_cons, forall_eq_or_imp, Bool.not_eq_true', decide_eq_false_iff_not]
    constructor
    · rintro ⟨h1, ⟨h2, h3⟩, h4, h5⟩
      refine ⟨⟨⟨h1, h2⟩, h4⟩, fun k k1 k2 => ?_⟩
      by_cases e : k = B.length
      · subst e; exact h3
      · exact h5 k (by omega) (by omega)
    · rintro ⟨⟨⟨h1, h2⟩, h4⟩, h5⟩
      exact ⟨h1, ⟨h2, h5 _ (Nat.le_refl _) (by omega)⟩, h4, fun k k1 k2 => h5 k (by omega) (by omega)⟩

/-- From the beginning on, with all reporters: what fits is a way of the search. -/
theorem fits_path {due delay : Int} {C : List (Int × Int × Int)} {T : List (Int × Int)} {R : List Nat} {f t : Int} (h : Asc f t T) (hl : R.length ≤ T.length) (h5 : C.length ≤ 5) :
    Fits (okM (-1) due delay C T) C.length [] R ↔ (howOf due delay C T).path R 0 [0, 0, 0, 0, 0] := by
  rw [fits_iff, path_iff h hl h5]
  simp only [List.nil_append, List.length_nil, Nat.zero_add]
  exact ⟨fun ⟨h1, h2⟩ => ⟨fun r hr => (h1 r hr).1, fun k hk => h2 k (Nat.zero_le _) hk⟩, fun ⟨h1, h2⟩ => ⟨fun r hr => ⟨h1 r hr, by omega⟩, fun k _ hk => h2 k hk⟩⟩

theorem dfs_best {due delay : Int} {C : List (Int × Int × Int)} {T : List (Int × Int)} {X R : List Nat} {f t : Int} (h : Asc f t T) (h5 : C.length ≤ 5) (hd : dfs (okM (-1) due delay C T) C.length T.length [] = some X) (hb : (howOf due delay C T).best R 0 [0, 0, 0, 0, 0]) : X = R := by
  obtain ⟨rs, e, h1, h2, h3⟩ := (dfs_spec _ _ _ _).1 X hd
  rw [List.nil_append] at e
  subst e
  have hRl : R.length = T.length := by
    have := hb.2.1
    rw [Nat.zero_add] at this
    exact this
  have hp := (fits_path h (by omega) h5).1 h2
  refine lexLe_antisymm _ _ (by omega) (h3 R hRl ((fits_path h (by omega) h5).2 hb.1)) (hb.2.2 _ hp ?_)
  rw [Nat.zero_add]
  exact h1

theorem dfs_dead {due delay : Int} {C : List (Int × Int × Int)} {T : List (Int × Int)} {X : List Nat} {rc : Nat} {f t : Int} (h : Asc f t T) (h5 : C.length ≤ 5) (hd : dfs (okM (-1) due delay C T) C.length T.length [] = some X) (hb : (howOf due delay C T).dead rc 0 [0, 0, 0, 0, 0]) : False := by
  obtain ⟨rs, e, h1, h2, h3⟩ := (dfs_spec _ _ _ _).1 X hd
  have hp := (fits_path h (by omega) h5).1 h2
  have := (hb _ hp).1
  have h6 : (howOf due delay C T).tn = T.length := rfl
  omega

theorem dfs_no {due delay : Int} {C : List (Int × Int × Int)} {T : List (Int × Int)} {R : List Nat} {f t : Int} (h : Asc f t T) (h5 : C.length ≤ 5) (hd : dfs (okM (-1) due delay C T) C.length T.length [] = none) (hb : (howOf due delay C T).path R 0 [0, 0, 0, 0, 0]) (hl : R.length = T.length) : False :=
  (dfs_spec _ _ _ _).2 hd R hl ((fits_path h (by omega) h5).2 hb)

end Go.Proofs.Ytgapbaelifcifaa
