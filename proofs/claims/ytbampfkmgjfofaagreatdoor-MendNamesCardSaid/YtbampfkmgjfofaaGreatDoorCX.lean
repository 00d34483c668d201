/- Mend: which requests are accepted, and the segments of both versions, in numbers. -/
import Derived.Test.YtbampfkmgjfofaaGreatDoorBM
namespace Go.Proofs.YtbampfkmgjfofaaGreatDoor
open Go.RowKit Go.Sort

/-! ## Which are accepted -/

/-- What the run leaves, with the indices of those that were taken. -/
structure RunAcc (al : Ask → Int) (A : List Ask) (st : (Nat → Int) × List Ask) : Prop where
  apart : st.2.Pairwise fun y x => meetA y x = false
  mem : ∀ x, x ∈ st.2 ↔ x ∈ A ∧ st.1 x.i = 0
  nodup : (st.2.map (·.i)).Nodup
  rest : ∀ i, i ∉ A.map (·.i) → st.1 i = 0
  fine : ∀ x ∈ st.2, al x = 0

theorem RunAcc.step {al : Ask → Int} {A : List Ask} {st : (Nat → Int) × List Ask} (h : RunAcc al A st) {x : Ask} (hx : x.i ∉ A.map (·.i)) : RunAcc al (A ++ [x]) (stepA al st x) := by
  have hxA : x ∉ A := fun hm => hx (List.mem_map.2 ⟨x, hm, rfl⟩)
  have h0 := h.rest x.i hx
  unfold stepA
  split
  · rename_i hv
    have hal : al x = 0 ∧ st.2.any (fun y => meetA y x) = false := by
      unfold verdictA at hv
      split at hv
      · rename_i ha
        refine ⟨ha, ?_⟩
        cases hb : st.2.any (fun y => meetA y x)
        · rfl
        · rw [hb] at hv; exact absurd hv (by decide)
      · rename_i ha; exact absurd hv ha
    refine ⟨?_, fun y => ?_, ?_, fun i hi => ?_, fun y hy => ?_⟩
    · simp only
      rw [List.pairwise_append]
      refine ⟨h.apart, by simp, fun y hy z hz => ?_⟩
      rw [List.mem_singleton] at hz
      subst hz
      exact List.any_eq_false.1 hal.2 y hy |> fun k => by simpa using k
    · simp only [List.mem_append, List.mem_singleton]
      rw [h.mem]
      constructor
      · rintro (⟨h1, h2⟩ | rfl)
        · exact ⟨Or.inl h1, h2⟩
        · exact ⟨Or.inr rfl, h0⟩
      · rintro ⟨h1 | rfl, h2⟩
        · exact Or.inl ⟨h1, h2⟩
        · exact Or.inr rfl
    · simp only [List.map_append, List.map_cons, List.map_nil]
      rw [List.nodup_append]
      refine ⟨h.nodup, by simp, fun a ha b hb e => ?_⟩
      rw [List.mem_singleton] at hb
      obtain ⟨y, hy, rfl⟩ := List.mem_map.1 ha
      exact hx (List.mem_map.2 ⟨y, ((h.mem y).1 hy).1, by rw [e, hb]⟩)
    · exact h.rest i fun hm => hi (by simp only [List.map_append, List.mem_append]; exact Or.inl hm)
    · simp only [List.mem_append, List.mem_singleton] at hy
      rcases hy with hy | rfl
      · exact h.fine y hy
      · exact hal.1
  · rename_i hv
    refine ⟨h.apart, fun y => ?_, h.nodup, fun i hi => ?_, h.fine⟩
    · simp only [List.mem_append, List.mem_singleton]
      rw [h.mem]
      constructor
      · rintro ⟨h1, h2⟩
        refine ⟨Or.inl h1, ?_⟩
        rw [if_neg fun e => hx (List.mem_map.2 ⟨y, h1, e⟩)]
        exact h2
      · rintro ⟨h1 | rfl, h2⟩
        · rw [if_neg fun e => hx (List.mem_map.2 ⟨y, h1, e⟩)] at h2
          exact ⟨h1, h2⟩
        · rw [if_pos rfl] at h2
          exact absurd h2 hv
    · simp only [List.map_append, List.map_cons, List.map_nil, List.mem_append, List.mem_singleton, not_or] at hi
      simp only
      rw [if_neg hi.2]
      exact h.rest i hi.1

theorem RunAcc.fold {al : Ask → Int} : ∀ (B A : List Ask) (st : (Nat → Int) × List Ask), RunAcc al A st → ((A ++ B).map (·.i)).Nodup → RunAcc al (A ++ B) (B.foldl (stepA al) st)
  | [], A, st, h, _ => by rw [List.append_nil]; exact h
  | x :: B, A, st, h, hn => by
    have e : A ++ x :: B = (A ++ [x]) ++ B := by simp
    rw [e] at hn ⊢
    refine RunAcc.fold B (A ++ [x]) _ (h.step ?_) hn
    intro hm
    rw [List.map_append, List.map_append, List.nodup_append] at hn
    have h1 := hn.1
    rw [List.nodup_append] at h1
    exact h1.2.2 _ hm x.i (by simp) rfl

theorem runA_acc {al : Ask → Int} {T : List Ask} (hn : (T.map (·.i)).Nodup) : RunAcc al T (runA al T) :=
  RunAcc.fold T [] (fun _ => 0, []) ⟨List.Pairwise.nil, by simp, by simp, fun _ _ => rfl, by simp⟩ hn

/-! ## In their order -/

/-- By rising From, and then by rising Cut. -/
def cmpS (x y : Ask) : Int := if x.f - y.f = 0 then x.c - y.c else x.f - y.f

theorem ltOf_cmpS (x y : Ask) : ltOf cmpS x y = decide (x.f < y.f ∨ x.f = y.f ∧ x.c < y.c) := by
  unfold ltOf cmpS
  rw [decide_eq_decide]
  split <;> omega

theorem meetA_comm (x y : Ask) : meetA x y = meetA y x := by
  unfold meetA
  rw [Bool.eq_iff_iff]
  simp only [Bool.or_eq_true, Bool.and_eq_true, decide_eq_true_eq]
  omega

/-- One behind the other, from a place on up to the end. -/
def Flow (n : Int) : Int → List Ask → Prop
  | a, [] => a ≤ n
  | a, x :: r => a ≤ x.f ∧ 0 ≤ x.c ∧ Flow n (x.f + x.c) r

theorem flow_of {n : Int} : ∀ {Q : List Ask} {a : Int}, Q.Pairwise (fun x y => ltOf cmpS y x = false) → Q.Pairwise (fun x y => meetA x y = false) → (∀ x ∈ Q, a ≤ x.f ∧ 0 ≤ x.c ∧ x.f + x.c ≤ n) → a ≤ n → Flow n a Q
  | [], a, _, _, _, ha => ha
  | x :: r, a, h1, h2, h3, _ => by
    rw [List.pairwise_cons] at h1 h2
    obtain ⟨g1, g2, g3⟩ := h3 x (by simp)
    refine ⟨g1, g2, flow_of h1.2 h2.2 (fun y hy => ?_) g3⟩
    obtain ⟨k1, k2, k3⟩ := h3 y (by simp [hy])
    refine ⟨?_, k2, k3⟩
    have e1 := h1.1 y hy
    have e2 := h2.1 y hy
    rw [ltOf_cmpS, decide_eq_false_iff_not] at e1
    unfold meetA at e2
    simp only [Bool.or_eq_false_iff, Bool.and_eq_false_iff, decide_eq_false_iff_not] at e2
    omega

/-! ## The segments -/

/-- Old texts, new texts, the request. -/
abbrev Seg := List Tx × List Tx × Int

/-- What nobody changed. -/
def keepS (R : List (Tx × Int)) (a b : Nat) : List Seg := if a < b then [(textsM R a (b - a), textsM R a (b - a), -1)] else []

/-- What a request changed. -/
def segQ (R : List (Tx × Int)) (P : Nat → List Tx) (x : Ask) : Seg := (textsM R x.f.toNat x.c.toNat, P x.i, (x.i : Int))

def stepS (R : List (Tx × Int)) (P : Nat → List Tx) (s : List Seg × Nat) (x : Ask) : List Seg × Nat :=
  (s.1 ++ keepS R s.2 x.f.toNat ++ [segQ R P x], (x.f + x.c).toNat)

def runS (R : List (Tx × Int)) (P : Nat → List Tx) (Q : List Ask) : List Seg × Nat := Q.foldl (stepS R P) ([], 0)

def segM (R : List (Tx × Int)) (P : Nat → List Tx) (Q : List Ask) : List Seg := (runS R P Q).1 ++ keepS R (runS R P Q).2 R.length

theorem runS_snoc (R : List (Tx × Int)) (P : Nat → List Tx) (Q : List Ask) (x : Ask) : runS R P (Q ++ [x]) = stepS R P (runS R P Q) x := by
  unfold runS
  rw [List.foldl_append]
  rfl

theorem runS_take {R : List (Tx × Int)} {P : Nat → List Tx} {Q : List Ask} {k : Nat} (hk : k < Q.length) : runS R P (Q.take (k + 1)) = stepS R P (runS R P (Q.take k)) (Q.getD k default) := by
  have e : Q.take (k + 1) = Q.take k ++ [Q.getD k default] := by
    rw [List.take_add_one, List.getElem?_eq_getElem hk, List.getD_eq_getElem?_getD, List.getElem?_eq_getElem hk]
    rfl
  rw [e, runS_snoc]

theorem keepS_length {R : List (Tx × Int)} {a b : Nat} : (keepS R a b).length ≤ 1 := by
  unfold keepS
  split <;> simp

theorem runS_length {R : List (Tx × Int)} {P : Nat → List Tx} : ∀ {Q : List Ask} {s : List Seg × Nat}, (Q.foldl (stepS R P) s).1.length ≤ s.1.length + 2 * Q.length
  | [], s => by simp
  | x :: Q, s => by
    have h := runS_length (R := R) (P := P) (Q := Q) (s := stepS R P s x)
    have h2 := keepS_length (R := R) (a := s.2) (b := x.f.toNat)
    rw [List.foldl_cons]
    unfold stepS at h
    simp only [List.length_append, List.length_singleton] at h
    simp only [List.length_cons]
    unfold stepS
    omega

theorem segM_length {R : List (Tx × Int)} {P : Nat → List Tx} {Q : List Ask} : (segM R P Q).length ≤ 2 * Q.length + 1 := by
  unfold segM
  rw [List.length_append]
  have h := runS_length (R := R) (P := P) (Q := Q) (s := ([], 0))
  have h2 := keepS_length (R := R) (a := (runS R P Q).2) (b := R.length)
  unfold runS at h2 ⊢
  simp only [List.length_nil] at h
  omega

theorem textsM_join {R : List (Tx × Int)} {a b c : Nat} (h1 : a ≤ b) (h2 : b ≤ c) : textsM R a (b - a) ++ textsM R b (c - b) = textsM R a (c - a) := by
  unfold textsM
  rw [← List.map_append]
  congr 1
  have e : R.drop b = (R.drop a).drop (b - a) := by rw [List.drop_drop]; congr 1; omega
  have e2 : c - a = (b - a) + (c - b) := by omega
  rw [e, e2, List.take_add]

theorem keepS_olds {R : List (Tx × Int)} {a b : Nat} (h : a ≤ b) : (keepS R a b).flatMap (·.1) = textsM R a (b - a) := by
  unfold keepS
  split
  · simp
  · have : b - a = 0 := by omega
    rw [this]; simp [textsM]

theorem flow_le {n : Int} : ∀ {Q : List Ask} {a : Int}, Flow n a Q → a ≤ n
  | [], _, h => h
  | _ :: _, _, h => by have := flow_le h.2.2; have := h.1; have := h.2.1; omega

/-- What holds of a run of segments that does not go back. -/
theorem flow_run {R : List (Tx × Int)} {P : Nat → List Tx} {K : Ask → Prop} {J : List Seg × Nat → Prop}
    (hJ : ∀ (s : List Seg × Nat) (x : Ask), K x → J s → (s.2 : Int) ≤ x.f → 0 ≤ x.c → x.f + x.c ≤ R.length → J (stepS R P s x)) :
    ∀ {Q : List Ask} {s : List Seg × Nat}, (∀ x ∈ Q, K x) → J s → Flow R.length s.2 Q → J (Q.foldl (stepS R P) s) ∧ ((Q.foldl (stepS R P) s).2 ≤ R.length)
  | [], s, _, hs, hf => ⟨hs, by simp only [List.foldl_nil]; have : (s.2 : Int) ≤ R.length := hf; omega⟩
  | x :: r, s, hk, hs, hf => by
    obtain ⟨h1, h2, h3⟩ := hf
    have h4 := flow_le h3
    rw [List.foldl_cons]
    refine flow_run hJ (fun y hy => hk y (by simp [hy])) (hJ s x (hk x (by simp)) hs h1 h2 h4) ?_
    have e : (((stepS R P s x).2 : Nat) : Int) = x.f + x.c := by
      unfold stepS
      simp only
      omega
    rw [e]
    exact h3

/-- All old texts are the report's. -/
theorem segM_olds {R : List (Tx × Int)} {P : Nat → List Tx} {Q : List Ask} (hf : Flow R.length 0 Q) : (segM R P Q).flatMap (·.1) = R.map (·.1) := by
  have h := flow_run (R := R) (P := P) (K := fun _ => True) (J := fun s => s.1.flatMap (·.1) = textsM R 0 s.2 ∧ s.2 ≤ R.length) (fun s x _ hs h1 h2 h3 => by
    unfold stepS
    simp only
    refine ⟨?_, by omega⟩
    rw [List.flatMap_append, List.flatMap_append, hs.1, keepS_olds (by omega)]
    have j1 := textsM_join (R := R) (a := 0) (b := s.2) (c := x.f.toNat) (by omega) (by omega)
    rw [Nat.sub_zero, Nat.sub_zero] at j1
    rw [j1]
    have j2 := textsM_join (R := R) (a := 0) (b := x.f.toNat) (c := (x.f + x.c).toNat) (by omega) (by omega)
    rw [Nat.sub_zero, Nat.sub_zero] at j2
    rw [← j2]
    simp only [List.flatMap_cons, List.flatMap_nil, List.append_nil, segQ]
    congr 2
    omega) (Q := Q) (s := ([], 0)) (fun _ _ => trivial) ⟨by simp [textsM], by simp⟩ hf
  unfold segM runS
  rw [List.flatMap_append, h.1.1, keepS_olds h.2]
  have j := textsM_join (R := R) (a := 0) (b := (Q.foldl (stepS R P) ([], 0)).2) (c := R.length) (by omega) h.2
  rw [Nat.sub_zero, Nat.sub_zero] at j
  rw [j]
  unfold textsM
  simp
theorem senseM_join {E : List Ent} {A B : List Tx} : senseM E (A ++ B) = senseM E A ++ senseM E B := List.filterMap_append

/-! ## MendSame: the sense of the versions -/

theorem may_self (S : List (Int × Int × Int)) (x : Int × Int) : mayM S x x = true := by simp [mayM]

theorem keeps_self (S : List (Int × Int × Int)) (A : List (Int × Int)) : keepsM S A A = true := by
  unfold keepsM
  rw [Bool.and_eq_true, decide_eq_true_eq, allN_of]
  exact ⟨rfl, fun i _ => may_self S _⟩

theorem keeps_append {S : List (Int × Int × Int)} {A B C D : List (Int × Int)} (h : keepsM S A B = true) (k : keepsM S C D = true) : keepsM S (A ++ C) (B ++ D) = true := by
  unfold keepsM at h k ⊢
  rw [Bool.and_eq_true, decide_eq_true_eq, allN_of] at h k ⊢
  refine ⟨by rw [List.length_append, List.length_append, h.1, k.1], fun i hi => ?_⟩
  rw [List.length_append] at hi
  have hl := h.1
  by_cases g : i < A.length
  · have e1 : (A ++ C).getD i (0, 0) = A.getD i (0, 0) := by rw [List.getD_eq_getElem?_getD, List.getD_eq_getElem?_getD, List.getElem?_append_left g]
    have e2 : (B ++ D).getD i (0, 0) = B.getD i (0, 0) := by rw [List.getD_eq_getElem?_getD, List.getD_eq_getElem?_getD, List.getElem?_append_left (by omega)]
    rw [e1, e2]
    exact h.2 i g
  · have e1 : (A ++ C).getD i (0, 0) = C.getD (i - A.length) (0, 0) := by rw [List.getD_eq_getElem?_getD, List.getD_eq_getElem?_getD, List.getElem?_append_right (by omega)]
    have e2 : (B ++ D).getD i (0, 0) = D.getD (i - A.length) (0, 0) := by rw [List.getD_eq_getElem?_getD, List.getD_eq_getElem?_getD, List.getElem?_append_right (by omega), hl]
    rw [e1, e2]
    exact k.2 _ (by omega)

theorem keepS_same {R : List (Tx × Int)} {a b : Nat} : (keepS R a b).flatMap (·.2.1) = (keepS R a b).flatMap (·.1) := by
  unfold keepS
  split <;> simp

/-- The sense of all old texts may become that of all new ones. -/
theorem segM_keeps {E : List Ent} {S : List (Int × Int × Int)} {R : List (Tx × Int)} {P : Nat → List Tx} {Q : List Ask} (hf : Flow R.length 0 Q)
    (hQ : ∀ x ∈ Q, keepsM S (senseM E (textsM R x.f.toNat x.c.toNat)) (senseM E (P x.i)) = true) :
    keepsM S (senseM E ((segM R P Q).flatMap (·.1))) (senseM E ((segM R P Q).flatMap (·.2.1))) = true := by
  have h := flow_run (R := R) (P := P) (K := fun x => keepsM S (senseM E (textsM R x.f.toNat x.c.toNat)) (senseM E (P x.i)) = true) (J := fun s => keepsM S (senseM E (s.1.flatMap (·.1))) (senseM E (s.1.flatMap (·.2.1))) = true) (fun s x hk hs h1 h2 h3 => by
    unfold stepS
    simp only
    rw [List.flatMap_append, List.flatMap_append, List.flatMap_append, List.flatMap_append, keepS_same, senseM_join, senseM_join, senseM_join, senseM_join]
    refine keeps_append (keeps_append hs (keeps_self S _)) ?_
    simpa [segQ] using hk) (Q := Q) (s := ([], 0)) hQ (by simp [senseM, keeps_self]) hf
  unfold segM runS
  rw [List.flatMap_append, List.flatMap_append, keepS_same, senseM_join, senseM_join]
  exact keeps_append h.1 (keeps_self S _)

/-! ## MendBoth: each segment, one by one -/

/-- A segment is right behind the first words, of which the last one was changed by none. -/
structure SegFine (R : List (Tx × Int)) (rn : Nat) (F C : Nat → Int) (P : Nat → List Tx) (at_ : Nat) (none_ : Bool) (s : Seg) : Prop where
  some_ : s.1.length + s.2.1.length ≠ 0
  lo : -1 ≤ s.2.2
  hi : s.2.2 < rn
  fits : at_ + s.1.length ≤ R.length
  old : s.1 = textsM R at_ s.1.length
  keep : s.2.2 < 0 → s.1 = s.2.1 ∧ none_ = false
  put : 0 ≤ s.2.2 → F s.2.2.toNat = at_ ∧ C s.2.2.toNat = s.1.length ∧ s.2.1 = P s.2.2.toNat

/-- All of them. -/
def SegsFine (R : List (Tx × Int)) (rn : Nat) (F C : Nat → Int) (P : Nat → List Tx) : Nat → Bool → List Seg → Prop
  | a, _, [] => a = R.length
  | a, z, s :: r => SegFine R rn F C P a z s ∧ SegsFine R rn F C P (a + s.1.length) (decide (s.2.2 < 0)) r

theorem keep_fine {R : List (Tx × Int)} {rn : Nat} {F C : Nat → Int} {P : Nat → List Tx} {a b : Nat} (h1 : a < b) (h2 : b ≤ R.length) : SegFine R rn F C P a false (textsM R a (b - a), textsM R a (b - a), -1) := by
  have hl : (textsM R a (b - a)).length = b - a := textsM_length rfl (by omega)
  refine ⟨?_, by simp, by simp; omega, ?_, ?_, fun _ => ⟨rfl, rfl⟩, fun h => absurd h (by simp)⟩
  · simp only [hl]; omega
  · simp only [hl]; omega
  · simp only [hl]

theorem q_fine {R : List (Tx × Int)} {rn : Nat} {F C : Nat → Int} {P : Nat → List Tx} {x : Ask} {z : Bool} (h1 : 0 ≤ x.f) (h2 : 0 ≤ x.c) (h3 : x.f + x.c ≤ R.length) (h4 : x.i < rn) (h5 : F x.i = x.f) (h6 : C x.i = x.c) (h7 : x.c = 0 → P x.i ≠ []) : SegFine R rn F C P x.f.toNat z (segQ R P x) := by
  have hl : (textsM R x.f.toNat x.c.toNat).length = x.c.toNat := textsM_length rfl (by omega)
  unfold segQ
  refine ⟨?_, by simp only; omega, by simp only; omega, ?_, ?_, fun h => ?_, fun _ => ?_⟩
  · simp only [hl]
    by_cases h0 : x.c = 0
    · have := h7 h0
      have : 0 < (P x.i).length := List.length_pos_iff.2 this
      omega
    · omega
  · simp only [hl]; omega
  · simp only [hl]
  · simp only at h; omega
  · simp only [hl, Int.toNat_natCast]
    exact ⟨by omega, by omega, trivial⟩

theorem segs_fine {R : List (Tx × Int)} {rn : Nat} {F C : Nat → Int} {P : Nat → List Tx} : ∀ {Q : List Ask} {a : Nat} {s : List Seg}, Flow R.length a Q → (∀ x ∈ Q, x.i < rn ∧ F x.i = x.f ∧ C x.i = x.c ∧ (x.c = 0 → P x.i ≠ [])) →
    ∃ t, (Q.foldl (stepS R P) (s, a)).1 ++ keepS R (Q.foldl (stepS R P) (s, a)).2 R.length = s ++ t ∧ SegsFine R rn F C P a false t
  | [], a, s, hf, _ => by
    refine ⟨keepS R a R.length, rfl, ?_⟩
    have ha : (a : Int) ≤ R.length := hf
    unfold keepS
    split
    · rename_i hlt
      refine ⟨keep_fine hlt (Nat.le_refl _), ?_⟩
      show a + (textsM R a (R.length - a)).length = R.length
      rw [textsM_length rfl (by omega)]
      omega
    · show a = R.length
      omega
  | x :: r, a, s, hf, hQ => by
    obtain ⟨h1, h2, h3⟩ := hf
    obtain ⟨k1, k2, k3, k4⟩ := hQ x (by simp)
    have h4 := flow_le h3
    have e : (((x.f + x.c).toNat : Nat) : Int) = x.f + x.c := by omega
    obtain ⟨t, ht, hft⟩ := segs_fine (Q := r) (a := (x.f + x.c).toNat) (s := s ++ keepS R a x.f.toNat ++ [segQ R P x]) (by rw [e]; exact h3) (fun y hy => hQ y (by simp [hy]))
    refine ⟨keepS R a x.f.toNat ++ segQ R P x :: t, ?_, ?_⟩
    · rw [List.foldl_cons]
      show ((r.foldl (stepS R P) (stepS R P (s, a) x)).1 ++ keepS R (r.foldl (stepS R P) (stepS R P (s, a) x)).2 R.length) = _
      unfold stepS at ht ⊢
      simp only at ht ⊢
      rw [ht]
      simp
    · have hlq : (segQ R P x).1.length = x.c.toNat := textsM_length rfl (by omega)
      have hz : decide ((segQ R P x).2.2 < 0) = false := by
        unfold segQ
        simp only [decide_eq_false_iff_not]
        omega
      have hq : ∀ z, SegsFine R rn F C P x.f.toNat z (segQ R P x :: t) := fun z => by
        refine ⟨q_fine (by omega) h2 h4 k1 k2 k3 k4, ?_⟩
        rw [hlq, hz, show x.f.toNat + x.c.toNat = (x.f + x.c).toNat by omega]
        exact hft
      unfold keepS
      split
      · rename_i hlt
        refine ⟨keep_fine hlt (by omega), ?_⟩
        have hl : (textsM R a (x.f.toNat - a)).length = x.f.toNat - a := textsM_length rfl (by omega)
        show SegsFine R rn F C P (a + (textsM R a (x.f.toNat - a)).length) _ _
        rw [hl, show a + (x.f.toNat - a) = x.f.toNat by omega]
        exact hq _
      · rw [List.nil_append, show a = x.f.toNat by omega]
        exact hq _

theorem segM_fine {R : List (Tx × Int)} {rn : Nat} {F C : Nat → Int} {P : Nat → List Tx} {Q : List Ask} (hf : Flow R.length 0 Q) (hQ : ∀ x ∈ Q, x.i < rn ∧ F x.i = x.f ∧ C x.i = x.c ∧ (x.c = 0 → P x.i ≠ [])) :
    SegsFine R rn F C P 0 false (segM R P Q) := by
  obtain ⟨t, ht, hft⟩ := segs_fine (R := R) (rn := rn) (F := F) (C := C) (P := P) (Q := Q) (a := 0) (s := []) hf hQ
  unfold segM runS
  rw [ht]
  exact hft

/-- How often a request is among segments. -/
def timesS (i : Nat) (L : List Seg) : Nat := (L.filter fun s => decide (s.2.2 = (i : Int))).length

theorem times_append (i : Nat) (A B : List Seg) : timesS i (A ++ B) = timesS i A + timesS i B := by
  unfold timesS
  rw [List.filter_append, List.length_append]

theorem times_keep (i : Nat) (R : List (Tx × Int)) (a b : Nat) : timesS i (keepS R a b) = 0 := by
  unfold timesS keepS
  split
  · rw [List.filter_cons_of_neg (by simp)]; rfl
  · rfl

theorem times_q (i : Nat) (R : List (Tx × Int)) (P : Nat → List Tx) (x : Ask) : timesS i [segQ R P x] = if x.i = i then 1 else 0 := by
  unfold timesS segQ
  split
  · rename_i h
    rw [List.filter_cons_of_pos (by simp; omega)]; rfl
  · rename_i h
    rw [List.filter_cons_of_neg (by simp; omega)]; rfl

theorem times_run (i : Nat) (R : List (Tx × Int)) (P : Nat → List Tx) : ∀ (Q : List Ask) (s : List Seg × Nat), timesS i (Q.foldl (stepS R P) s).1 = timesS i s.1 + (Q.map (·.i)).count i
  | [], s => by simp
  | x :: r, s => by
    rw [List.foldl_cons, times_run i R P r]
    unfold stepS
    simp only [times_append, times_keep, times_q, List.map_cons, List.count_cons, beq_iff_eq]
    split <;> omega

/-- Each request that was accepted is there once, and no other one. -/
theorem segM_times (i : Nat) (R : List (Tx × Int)) (P : Nat → List Tx) (Q : List Ask) : timesS i (segM R P Q) = (Q.map (·.i)).count i := by
  unfold segM
  rw [times_append, times_keep]
  unfold runS
  rw [times_run]
  simp [timesS]
/-! ## One order alone -/

/-- What of a request decides its segment. -/
def key3 (x : Ask) : Int × Int × Nat := (x.f, x.c, x.i)

theorem stepS_key {R : List (Tx × Int)} {P P' : Nat → List Tx} {x y : Ask} {s : List Seg × Nat} (h : key3 x = key3 y) (hP : P x.i = P' y.i) : stepS R P s x = stepS R P' s y := by
  unfold key3 at h
  simp only [Prod.mk.injEq] at h
  unfold stepS segQ
  rw [h.1, h.2.1, hP, h.2.2]

theorem runS_key {R : List (Tx × Int)} {P : Nat → List Tx} : ∀ {A B : List Ask} {s : List Seg × Nat}, A.map key3 = B.map key3 → A.foldl (stepS R P) s = B.foldl (stepS R P) s
  | [], [], _, _ => rfl
  | [], _ :: _, _, h => by simp at h
  | _ :: _, [], _, h => by simp at h
  | x :: A, y :: B, s, h => by
    simp only [List.map_cons, List.cons.injEq] at h
    have hi : x.i = y.i := by have := h.1; unfold key3 at this; simp only [Prod.mk.injEq] at this; exact this.2.2
    rw [List.foldl_cons, List.foldl_cons, stepS_key h.1 (by rw [hi])]
    exact runS_key h.2

theorem segM_key {R : List (Tx × Int)} {P : Nat → List Tx} {A B : List Ask} (h : A.map key3 = B.map key3) : segM R P A = segM R P B := by
  unfold segM runS
  rw [runS_key h]

/-- Before, by From and Cut alone. -/
def lt3 (a b : Int × Int × Nat) : Prop := a.1 < b.1 ∨ a.1 = b.1 ∧ a.2.1 < b.2.1

theorem order3_one : ∀ {A B : List (Int × Int × Nat)}, A.Perm B → A.Pairwise lt3 → B.Pairwise lt3 → A = B
  | [], B, hp, _, _ => (List.Perm.nil_eq hp)
  | x :: A, [], hp, _, _ => by have := hp.length_eq; simp at this
  | x :: A, y :: B, hp, ha, hb => by
    rw [List.pairwise_cons] at ha hb
    have hxy : x = y := by
      have hx : x ∈ y :: B := hp.mem_iff.1 (by simp)
      have hy : y ∈ x :: A := hp.mem_iff.2 (by simp)
      rcases List.mem_cons.1 hx with h | h
      · exact h
      · rcases List.mem_cons.1 hy with k | k
        · exact k.symm
        · have h1 := hb.1 x h
          have h2 := ha.1 y k
          unfold lt3 at h1 h2
          omega
    subst hxy
    rw [order3_one (List.perm_cons x |>.1 hp) ha.2 hb.2]

theorem keys_sorted {Q : List Ask} (h1 : Q.Pairwise fun x y => ltOf cmpS y x = false) (h2 : Q.Pairwise fun x y => meetA x y = false) : (Q.map key3).Pairwise lt3 := by
  rw [List.pairwise_map]
  refine (h1.and h2).imp ?_
  rintro x y ⟨e1, e2⟩
  rw [ltOf_cmpS, decide_eq_false_iff_not] at e1
  unfold meetA at e2
  simp only [Bool.or_eq_false_iff, Bool.and_eq_false_iff, decide_eq_false_iff_not] at e2
  unfold lt3 key3
  simp only
  omega

/-- Sorted, the same requests make the same segments. -/
theorem segM_perm {R : List (Tx × Int)} {P : Nat → List Tx} {A B : List Ask} (hp : (A.map key3).Perm (B.map key3)) (a1 : A.Pairwise fun x y => ltOf cmpS y x = false) (a2 : A.Pairwise fun x y => meetA x y = false)
    (b1 : (B.map key3).Pairwise lt3) : segM R P A = segM R P B :=
  segM_key (order3_one hp (keys_sorted a1 a2) b1)

end Go.Proofs.YtbampfkmgjfofaaGreatDoor
