/- The takes of a sitting, in numbers: each second outside of the pauses is in one of them; with the pauses they are all of it. -/
import Derived.Test.YtgapbaelifcifaaMA
import Derived.Test.YtgapbaelifcifaaDA
import Derived.Test.YtgapbaelifcifaaCG
namespace Go.Proofs.Ytgapbaelifcifaa

/-- Spans that rise, from f to t. -/
def Asc : Int → Int → List (Int × Int) → Prop
  | f, t, [] => f ≤ t
  | f, t, p :: r => f ≤ p.1 ∧ p.1 < p.2 ∧ Asc p.2 t r

/-- Spans one behind the other, from f to t. -/
def Full : Int → Int → List (Int × Int) → Prop
  | f, t, [] => f = t
  | f, t, p :: r => p.1 = f ∧ p.1 < p.2 ∧ Full p.2 t r

def total (X : List (Int × Int)) : Int := (X.map fun x => x.2 - x.1).sum
def hits (sec : Int) (X : List (Int × Int)) : Nat := (X.filter fun x => decide (x.1 ≤ sec ∧ sec < x.2)).length

theorem total_nil : total [] = 0 := rfl
theorem total_cons (x : Int × Int) (X : List (Int × Int)) : total (x :: X) = (x.2 - x.1) + total X := by simp [total]
theorem total_append (X Y : List (Int × Int)) : total (X ++ Y) = total X + total Y := by simp [total]
theorem hits_append (sec : Int) (X Y : List (Int × Int)) : hits sec (X ++ Y) = hits sec X + hits sec Y := by simp [hits]
theorem hits_cons (sec : Int) (x : Int × Int) (X : List (Int × Int)) : hits sec (x :: X) = (if x.1 ≤ sec ∧ sec < x.2 then 1 else 0) + hits sec X := by
  unfold hits
  rw [List.filter_cons]
  split
  · next h => rw [if_pos (by simpa using h), List.length_cons]; omega
  · next h => rw [if_neg (by simpa using h)]; omega
theorem begun_cons (sec : Int) (x : Int × Int) (X : List (Int × Int)) : begunM sec (x :: X) = (if x.1 ≤ sec then 1 else 0) + begunM sec X := by
  unfold begunM
  rw [List.filter_cons]
  split
  · next h => rw [if_pos (by simpa using h), List.length_cons]; omega
  · next h => rw [if_neg (by simpa using h)]; omega
theorem paused_cons (x : Int × Int) (X : List (Int × Int)) (sec : Int) : pausedM (x :: X) sec = (decide (x.1 ≤ sec ∧ sec < x.2) || pausedM X sec) := by
  unfold pausedM inB
  rw [List.any_cons]
  congr 1
  exact decide_eq_decide.2 ⟨fun h => ⟨h.1, by omega⟩, fun h => ⟨h.1, by omega⟩⟩

theorem Asc.le {f t : Int} {X : List (Int × Int)} (h : Asc f t X) : f ≤ t := by
  induction X generalizing f with
  | nil => exact h
  | cons x X ih =>
    obtain ⟨h1, h2, h3⟩ := h
    have := ih h3
    omega

theorem Asc.mono {f f' t : Int} {X : List (Int × Int)} (h : Asc f t X) (hf : f' ≤ f) : Asc f' t X := by
  cases X with
  | nil => exact Int.le_trans hf h
  | cons x X => exact ⟨Int.le_trans hf h.1, h.2⟩

theorem Asc.append {f m t : Int} {X Y : List (Int × Int)} (h : Asc f m X) (k : Asc m t Y) : Asc f t (X ++ Y) := by
  induction X generalizing f with
  | nil => exact k.mono h
  | cons x X ih => exact ⟨h.1, h.2.1, ih h.2.2⟩

theorem Full.asc {f t : Int} {X : List (Int × Int)} (h : Full f t X) : Asc f t X := by
  induction X generalizing f with
  | nil => exact Int.le_of_eq h
  | cons x X ih => exact ⟨Int.le_of_eq h.1.symm, h.2.1, ih h.2.2⟩

theorem Full.total {f t : Int} {X : List (Int × Int)} (h : Full f t X) : total X = t - f := by
  induction X generalizing f with
  | nil => rw [total_nil]; have : f = t := h; omega
  | cons x X ih =>
    obtain ⟨h1, h2, h3⟩ := h
    rw [total_cons, ih h3]
    omega

/-- Nothing of what rises from f is before f. -/
theorem Asc.early {f t sec : Int} {X : List (Int × Int)} (h : Asc f t X) (hs : sec < f) : hits sec X = 0 ∧ begunM sec X = 0 ∧ pausedM X sec = false := by
  induction X generalizing f with
  | nil => exact ⟨rfl, rfl, rfl⟩
  | cons x X ih =>
    obtain ⟨h1, h2, h3⟩ := h
    obtain ⟨i1, i2, i3⟩ := ih h3 (by omega)
    rw [hits_cons, begun_cons, paused_cons, i1, i2, i3, if_neg (by omega), if_neg (by omega), decide_eq_false (by omega)]
    exact ⟨rfl, rfl, rfl⟩

/-- Nothing of what rises to t has what is behind t. -/
theorem Asc.late {f t sec : Int} {X : List (Int × Int)} (h : Asc f t X) (hs : t ≤ sec) : hits sec X = 0 := by
  induction X generalizing f with
  | nil => rfl
  | cons x X ih =>
    obtain ⟨h1, h2, h3⟩ := h
    have := h3.le
    rw [hits_cons, ih h3, if_neg (by omega)]

theorem Full.hits {f t sec : Int} {X : List (Int × Int)} (h : Full f t X) (h1 : f ≤ sec) (h2 : sec < t) : hits sec X = 1 := by
  induction X generalizing f with
  | nil => have : f = t := h; omega
  | cons x X ih =>
    obtain ⟨e1, e2, e3⟩ := h
    rw [hits_cons]
    by_cases hc : sec < x.2
    · rw [if_pos (by omega), (e3.asc.early hc).1]
    · rw [if_neg (by omega), ih e3 (by omega)]

theorem cutS_full {long short : Int} (hl : 1 ≤ long) (hs : 1 ≤ short) : ∀ (k : Nat) (f t : Int), t - f ≤ k → f ≤ t → Full f t (cutS long short k f t) := by
  intro k
  induction k with
  | zero => intro f t h1 h2; exact (by omega : f = t)
  | succ k ih =>
    intro f t h1 h2
    rw [cutS]
    by_cases hf : f < t
    · rw [if_pos hf]
      generalize he : (if t - (f + long) < short then t else f + long) = e
      by_cases hc : t - (f + long) < short
      · rw [if_pos hc] at he
        exact ⟨rfl, by simp only; omega, ih e t (by omega) (by omega)⟩
      · rw [if_neg hc] at he
        exact ⟨rfl, by simp only; omega, ih e t (by omega) (by omega)⟩
    · rw [if_neg hf]
      exact (by omega : f = t)

theorem pieces_full {long short f t : Int} (hl : 1 ≤ long) (hs : 1 ≤ short) (h : f ≤ t) : Full f t (piecesOf long short (f, t)) := by
  unfold piecesOf
  exact cutS_full hl hs _ _ _ (by simp only; omega) h

/-- The takes of what is left of a sitting, behind a second. -/
theorem rest_of {len long short : Int} (hl : 1 ≤ long) (hs : 1 ≤ short) : ∀ (L : List (Int × Int)) (f : Int), Asc f len L →
    Asc f len ((strs len f L).flatMap (piecesOf long short)) ∧ total ((strs len f L).flatMap (piecesOf long short)) + total L = len - f ∧
    ∀ sec, f ≤ sec → sec < len → hits sec ((strs len f L).flatMap (piecesOf long short)) = if pausedM L sec = true then 0 else 1 := by
  intro L
  induction L with
  | nil =>
    intro f h
    have hf : f ≤ len := h
    rw [strs]
    by_cases hc : f < len
    · rw [if_pos hc, List.flatMap_cons, List.flatMap_nil, List.append_nil]
      have hF := pieces_full hl hs hf
      exact ⟨hF.asc, by rw [hF.total, total_nil]; omega, fun sec h1 h2 => by rw [hF.hits h1 h2]; rfl⟩
    · rw [if_neg hc, List.flatMap_nil]
      exact ⟨hf, by rw [total_nil]; omega, fun sec h1 h2 => by omega⟩
  | cons p ps ih =>
    intro f h
    obtain ⟨h1, h2, h3⟩ := h
    obtain ⟨i1, i2, i3⟩ := ih p.2 h3
    rw [strs, total_cons]
    generalize hT : (strs len p.2 ps).flatMap (piecesOf long short) = T at i1 i2 i3
    have hsec : ∀ sec, sec < len → p.1 ≤ sec → hits sec T = if pausedM (p :: ps) sec = true then 0 else 1 := by
      intro sec hs1 hs2
      rw [paused_cons]
      by_cases hp : sec < p.2
      · rw [(i1.early hp).1, decide_eq_true (by omega)]
        rfl
      · rw [i3 sec (by omega) hs1, decide_eq_false (by omega), Bool.false_or]
    have hbef : ∀ sec, sec < p.1 → pausedM (p :: ps) sec = false := by
      intro sec hs1
      rw [paused_cons, decide_eq_false (by omega), (h3.early (by omega)).2.2]
      rfl
    by_cases hc : f < p.1
    · rw [if_pos hc, List.flatMap_cons, hT, total_append]
      have hF := pieces_full (long := long) (short := short) hl hs (show f ≤ p.1 by omega)
      refine ⟨hF.asc.append (i1.mono (by omega)), by rw [hF.total]; omega, fun sec hs1 hs2 => ?_⟩
      rw [hits_append]
      by_cases hp : sec < p.1
      · rw [hF.hits hs1 hp, hbef sec hp, (i1.early (by omega)).1]
        rfl
      · rw [hF.asc.late (by omega), hsec sec hs2 (by omega)]
        omega
    · rw [if_neg hc, hT]
      exact ⟨i1.mono (by omega), by omega, fun sec hs1 hs2 => hsec sec hs2 (by omega)⟩

theorem pausedP_eq {len sec : Int} : ∀ (L : List (Int × Int)) (f : Int), Asc f len L → pausedP sec L = pausedM L sec := by
  intro L
  induction L with
  | nil => intro f _; rfl
  | cons p ps ih =>
    intro f h
    obtain ⟨h1, h2, h3⟩ := h
    rw [pausedP, paused_cons]
    by_cases c1 : sec < p.1
    · rw [if_pos c1, decide_eq_false (by omega), (h3.early (by omega)).2.2]
      rfl
    · by_cases c2 : sec < p.2
      · rw [if_neg c1, if_pos c2, decide_eq_true (by omega)]
        rfl
      · rw [if_neg c1, if_neg c2, decide_eq_false (by omega), Bool.false_or]
        exact ih p.2 h3

theorem asc_drop {len : Int} (h0 : 0 ≤ len) {L : List (Int × Int)} (h : ∀ k, k < L.length → pauseOk len L k = true) : ∀ (d k : Nat), k + d = L.length →
    Asc (if k = 0 then 0 else (L.getD (k - 1) (0, 0)).2) len (L.drop k) := by
  intro d
  induction d with
  | zero =>
    intro k hk
    rw [List.drop_eq_nil_of_le (by omega)]
    show (if k = 0 then 0 else (L.getD (k - 1) (0, 0)).2) ≤ len
    split
    · exact h0
    · have := (pauseOk_iff len L (k - 1)).1 (h (k - 1) (by omega))
      omega
  | succ d ih =>
    intro k hk
    have hlt : k < L.length := by omega
    have hI := ih (k + 1) (by omega)
    rw [if_neg (by omega), Nat.add_sub_cancel] at hI
    rw [List.drop_eq_getElem_cons hlt]
    have hg : L.getD k (0, 0) = L[k] := by rw [List.getD_eq_getElem?_getD, List.getElem?_eq_getElem hlt, Option.getD_some]
    have hp := (pauseOk_iff len L k).1 (h k hlt)
    rw [hg] at hI hp
    refine ⟨?_, by omega, hI⟩
    split
    · omega
    · next hk0 =>
      have h1 := hp.1
      have hl : lastOf L k = (L.getD (k - 1) (0, 0)).2 := by
        cases k with
        | zero => exact absurd rfl hk0
        | succ k => rfl
      omega

theorem asc_of_ok {len : Int} (h0 : 0 ≤ len) {L : List (Int × Int)} (h : pausesOk len L = true) : Asc 0 len L := by
  have hk : ∀ k, k < L.length → pauseOk len L k = true := by
    intro k hk
    unfold pausesOk at h
    rw [List.all_eq_true] at h
    exact h k (by simpa using hk)
  simpa using asc_drop h0 hk L.length 0 (by omega)

theorem Asc.at {f t : Int} {X : List (Int × Int)} (h : Asc f t X) {i : Nat} (hi : i < X.length) : f ≤ (X.getD i (0, 0)).1 ∧ (X.getD i (0, 0)).1 < (X.getD i (0, 0)).2 ∧ (X.getD i (0, 0)).2 ≤ t := by
  induction X generalizing f i with
  | nil => simp at hi
  | cons x X ih =>
    obtain ⟨h1, h2, h3⟩ := h
    have := h3.le
    cases i with
    | zero => exact ⟨h1, h2, this⟩
    | succ i =>
      have := ih h3 (i := i) (by simpa using hi)
      rw [List.getD_cons_succ]
      exact ⟨by omega, this.2.1, this.2.2⟩

theorem Asc.next {f t : Int} {X : List (Int × Int)} (h : Asc f t X) {i : Nat} (hi : i + 1 < X.length) : (X.getD i (0, 0)).2 ≤ (X.getD (i + 1) (0, 0)).1 := by
  induction X generalizing f i with
  | nil => simp at hi
  | cons x X ih =>
    obtain ⟨h1, h2, h3⟩ := h
    cases i with
    | zero => rw [List.getD_cons_succ, List.getD_cons_zero]; exact (h3.at (i := 0) (by simpa using hi)).1
    | succ i => rw [List.getD_cons_succ, List.getD_cons_succ]; exact ih h3 (by simpa using hi)

theorem begun_of_hit {f t sec : Int} {X : List (Int × Int)} (h : Asc f t X) {i : Nat} (hi : i < X.length) (h1 : (X.getD i (0, 0)).1 ≤ sec) (h2 : sec < (X.getD i (0, 0)).2) : begunM sec X = i + 1 := by
  induction X generalizing f i with
  | nil => simp at hi
  | cons x X ih =>
    obtain ⟨g1, g2, g3⟩ := h
    rw [begun_cons]
    cases i with
    | zero =>
      rw [List.getD_cons_zero] at h1 h2
      rw [if_pos h1, (g3.early h2).2.1]
    | succ i =>
      rw [List.getD_cons_succ] at h1 h2
      have := g3.at (i := i) (by simpa using hi)
      rw [if_pos (by omega), ih g3 (by simpa using hi) h1 h2]
      omega

theorem total_step {X : List (Int × Int)} {k : Nat} (hk : k < X.length) : total (X.take (k + 1)) = total (X.take k) + ((X.getD k (0, 0)).2 - (X.getD k (0, 0)).1) := by
  rw [List.take_succ_eq_append_getElem hk, total_append, List.getD_eq_getElem?_getD, List.getElem?_eq_getElem hk, Option.getD_some, total_cons, total_nil]
  omega

theorem hits_step {sec : Int} {X : List (Int × Int)} {k : Nat} (hk : k < X.length) : hits sec (X.take (k + 1)) = hits sec (X.take k) + if (X.getD k (0, 0)).1 ≤ sec ∧ sec < (X.getD k (0, 0)).2 then 1 else 0 := by
  rw [List.take_succ_eq_append_getElem hk, hits_append, List.getD_eq_getElem?_getD, List.getElem?_eq_getElem hk, Option.getD_some, hits_cons]
  rfl

theorem Asc.total_take {f t : Int} {X : List (Int × Int)} (h : Asc f t X) (k : Nat) : 0 ≤ total (X.take k) ∧ total (X.take k) ≤ t - f := by
  induction X generalizing f k with
  | nil =>
    have : f ≤ t := h
    rw [List.take_nil, total_nil]
    omega
  | cons x X ih =>
    obtain ⟨h1, h2, h3⟩ := h
    have hle := h3.le
    cases k with
    | zero => rw [List.take_zero, total_nil]; omega
    | succ k =>
      have := ih h3 k
      rw [List.take_succ_cons, total_cons]
      omega

theorem hits_le (sec : Int) (X : List (Int × Int)) (k : Nat) : hits sec (X.take k) ≤ k :=
  Nat.le_trans (List.length_filter_le _ _) (by simp; omega)

/-- The takes of a valid sitting. -/
theorem takes_all {len long short : Int} {L : List (Int × Int)} (h : sitOk len long short L = true) :
    Asc 0 len L ∧ Asc 0 len (takesOf len long short L) ∧ total (takesOf len long short L) + total L = len ∧
    ∀ sec, 0 ≤ sec → sec < len → hits sec (takesOf len long short L) = if pausedM L sec = true then 0 else 1 := by
  obtain ⟨h1, h2, h3, h4⟩ := sitOk_parts h
  have hA := asc_of_ok (by omega) h4
  obtain ⟨r1, r2, r3⟩ := rest_of (long := long) (short := short) (by omega) (by omega) L 0 hA
  exact ⟨hA, r1, by unfold takesOf; omega, r3⟩

end Go.Proofs.Ytgapbaelifcifaa
