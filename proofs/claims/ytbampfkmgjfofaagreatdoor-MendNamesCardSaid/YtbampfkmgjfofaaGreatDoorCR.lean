/- Mend, the laws: is the one taken sooner than the other one, by the definition: sooner. Mend, the laws: ref.Decide in numbers: which request is taken next, and what is answered to it. Mend, the laws: ref.Decide. -/
import Derived.Test.YtbampfkmgjfofaaGreatDoorBM
import Derived.Deep.RegionHeld3
import Derived.IntWalk
import Derived.Deep.QuietTactic
import Derived.BigQuiet
import Derived.Test.YtbampfkmgjfofaaGreatDoorCO
import Derived.Test.YtbampfkmgjfofaaGreatDoorCF
namespace Go.Proofs.YtbampfkmgjfofaaGreatDoor
open Go.RowKit

theorem soonB_is {L : List Req} {i k : Nat} : soonB L i k =
    if (L.getD i default).m ≠ (L.getD k default).m then decide ((L.getD i default).m < (L.getD k default).m) else if (L.getD i default).b ≠ (L.getD k default).b then decide ((L.getD i default).b < (L.getD k default).b) else decide (i < k) := by
  unfold soonB ltI
  rw [ltOf_cmpA, ltOf_cmpA]
  rw [Bool.eq_iff_iff]
  unfold askI
  split
  · simp only [Bool.or_eq_true, Bool.and_eq_true, Bool.not_eq_true', decide_eq_true_eq, decide_eq_false_iff_not]; omega
  · split
    · simp only [Bool.or_eq_true, Bool.and_eq_true, Bool.not_eq_true', decide_eq_true_eq, decide_eq_false_iff_not]; omega
    · simp only [Bool.or_eq_true, Bool.and_eq_true, Bool.not_eq_true', decide_eq_true_eq, decide_eq_false_iff_not]; omega

set_option maxRecDepth 100000 in
set_option maxHeartbeats 4000000 in
theorem sooner_any (L : List Req) (rn rc : Nat) (ra : Option Addr) (i k : Nat) (w : World) (hL : L.length = rn) (hQ : ReqsAt w ra L) (hi : i < rn) (hk : k < rn) :
    Calls Tryz.prog 61 #[.slice ra rn rc, .int .i64 i, .int .i64 k] w fun e w' => e = .returned (.bool (soonB L i k)) ∧ Below w.heap.size w w' := by
  rw [soonB_is]
  obtain ⟨b, off, pa, pc, rfl, e0, e1, -, -, -, -⟩ := hQ i (by rw [hL]; exact hi)
  obtain ⟨_, _, pa2, pc2, e, f0, f1, -, -, -, -⟩ := hQ k (by rw [hL]; exact hk)
  cases e
  generalize L.getD i default = x at e0 e1 ⊢
  generalize L.getD k default = y at f0 f1 ⊢
  obtain ⟨xb, xm, xf, xc, xp⟩ := x
  obtain ⟨yb, ym, yf, yc, yp⟩ := y
  simp only at e0 e1 f0 f1 ⊢
  have g := lt_of_cell e0
  have i0 : (0 : Int) ≤ (i : Int) := by omega
  have k0 : (0 : Int) ≤ (k : Int) := by omega
  have i1 : (i : Int) < (rn : Int) := by omega
  have k1 : (k : Int) < (rn : Int) := by omega
  have hcase : ((xm != ym) = true ∧ xm ≠ ym) ∨ ((xm != ym) = false ∧ xm = ym) := by
    by_cases h : xm = ym
    · exact .inr ⟨by simp [h], h⟩
    · exact .inl ⟨by simp [h], h⟩
  have hcase2 : ((xb != yb) = true ∧ xb ≠ yb) ∨ ((xb != yb) = false ∧ xb = yb) := by
    by_cases h : xb = yb
    · exact .inr ⟨by simp [h], h⟩
    · exact .inl ⟨by simp [h], h⟩
  clear hQ hL
  rcases hcase with ⟨g1, h1⟩ | ⟨g1, h1⟩
  · rw [if_pos h1]
    have H1 := hid h1
    clear h1 hcase2
    go_enter Tryz.func61, Tryz.ntmps61
    go_wp2_with fail
    go_quiet (fail)
    go_wp2_with fail
    go_quiet (fail)
    go_wp2
    go_ret
    exact ⟨rfl, below_drewN (below_drewN (Below.refl _ _) _) _⟩
  · rw [if_neg (by simp [h1])]
    have H1 := hid h1
    clear h1
    rcases hcase2 with ⟨g2, h2⟩ | ⟨g2, h2⟩
    · rw [if_pos h2]
      have H2 := hid h2
      clear h2
      go_enter Tryz.func61, Tryz.ntmps61
      go_wp2_with fail
      go_quiet (fail)
      go_wp2_with fail
      go_quiet (fail)
      go_wp2_with fail
      go_quiet (fail)
      go_wp2
      go_ret
      exact ⟨rfl, below_drewN (below_drewN (below_drewN (Below.refl _ _) _) _) _⟩
    · rw [if_neg (by simp [h2])]
      have H2 := hid h2
      clear h2
      go_enter Tryz.func61, Tryz.ntmps61
      go_wp2_with fail
      go_quiet (fail)
      go_wp2_with fail
      go_quiet (fail)
      go_wp2
      go_ret
      exact ⟨by simp, below_drewN (Below.refl _ _) _⟩

end Go.Proofs.YtbampfkmgjfofaaGreatDoor

namespace Go.Proofs.YtbampfkmgjfofaaGreatDoor
open Go.RowKit

theorem ordI_length (L : List Req) : (ordI L).length = L.length := by
  have := (ordI_perm L).length_eq
  rwa [List.length_range] at this

theorem ordI_nodup (L : List Req) : (ordI L).Nodup := (ordI_perm L).nodup_iff.2 List.nodup_range

theorem ordI_lt {L : List Req} {t : Nat} (ht : t < L.length) : (ordI L).getD t 0 < L.length := by
  have h : t < (ordI L).length := by rw [ordI_length]; exact ht
  rw [List.getD_eq_getElem?_getD, List.getElem?_eq_getElem h, Option.getD_some]
  exact List.mem_range.1 ((ordI_perm L).mem_iff.1 (List.getElem_mem h))

/-- Is a request taken, when some are? -/
def doneB (L : List Req) (t i : Nat) : Bool := decide (i ∈ (ordI L).take t)

theorem doneB_zero {L : List Req} {i : Nat} : doneB L 0 i = false := by simp [doneB]

theorem drop_split {L : List Req} {t : Nat} (ht : t < L.length) : (ordI L).drop t = (ordI L).getD t 0 :: (ordI L).drop (t + 1) := by
  have h : t < (ordI L).length := by rw [ordI_length]; exact ht
  rw [List.drop_eq_getElem_cons h, List.getD_eq_getElem?_getD, List.getElem?_eq_getElem h, Option.getD_some]

theorem take_split {L : List Req} {t : Nat} (ht : t < L.length) : (ordI L).take (t + 1) = (ordI L).take t ++ [(ordI L).getD t 0] := by
  have h : t < (ordI L).length := by rw [ordI_length]; exact ht
  rw [List.take_add_one, List.getElem?_eq_getElem h, List.getD_eq_getElem?_getD, List.getElem?_eq_getElem h]
  rfl

theorem not_both {L : List Req} {t i : Nat} (h1 : i ∈ (ordI L).take t) (h2 : i ∈ (ordI L).drop t) : False := by
  have h := ordI_nodup L
  rw [← List.take_append_drop t (ordI L), List.nodup_append] at h
  exact h.2.2 i h1 i h2 rfl

theorem in_drop {L : List Req} {t i : Nat} (hi : i < L.length) (h : doneB L t i = false) : i ∈ (ordI L).drop t := by
  have hm : i ∈ ordI L := (ordI_perm L).mem_iff.2 (List.mem_range.2 hi)
  rw [← List.take_append_drop t (ordI L), List.mem_append] at hm
  rcases hm with hm | hm
  · unfold doneB at h
    rw [decide_eq_false_iff_not] at h
    exact absurd hm h
  · exact hm

theorem doneB_next {L : List Req} {t : Nat} (ht : t < L.length) : doneB L t ((ordI L).getD t 0) = false := by
  unfold doneB
  rw [decide_eq_false_iff_not]
  intro h
  exact not_both h (by rw [drop_split ht]; exact List.mem_cons_self)

theorem doneB_step {L : List Req} {t : Nat} (ht : t < L.length) (i : Nat) : doneB L (t + 1) i = if i = (ordI L).getD t 0 then true else doneB L t i := by
  unfold doneB
  rw [take_split ht]
  split
  · rename_i h
    rw [h]
    simp
  · rename_i h
    rw [Bool.eq_iff_iff]
    simp only [decide_eq_true_eq, List.mem_append, List.mem_singleton]
    exact ⟨fun hh => hh.elim id fun e => absurd e h, .inl⟩

/-- The one that is taken next is the one than which none is sooner. -/
theorem pick_first {L : List Req} {t x : Nat} (ht : t < L.length) (hx : x < L.length) (hd : doneB L t x = false) (hmin : ∀ i, i < L.length → doneB L t i = false → soonB L i x = false) : x = (ordI L).getD t 0 := by
  have h1 := in_drop hx hd
  rw [drop_split ht] at h1
  rcases List.mem_cons.1 h1 with h | h
  · exact h
  · have hs : ((ordI L).drop t).Pairwise (fun i k => soonB L k i = false) := (ordI_sorted L).sublist (List.drop_sublist t _)
    rw [drop_split ht, List.pairwise_cons] at hs
    exact soonB_eq (hs.1 x h) (hmin _ (ordI_lt ht) (doneB_next ht))

/-- The one that is chosen, when some of them are looked at. -/
def PickM (L : List Req) (t j : Nat) (x : Int) : Prop :=
  (x = -1 ∧ ∀ i, i < j → doneB L t i = true) ∨ ∃ n : Nat, x = n ∧ n < j ∧ doneB L t n = false ∧ ∀ i, i < j → doneB L t i = false → soonB L i n = false

theorem PickM.zero {L : List Req} {t : Nat} : PickM L t 0 (-1) := .inl ⟨rfl, fun i h => by omega⟩

theorem PickM.past {L : List Req} {t j : Nat} {x : Int} (h : PickM L t j x) (hd : doneB L t j = true) : PickM L t (j + 1) x := by
  rcases h with ⟨h1, h2⟩ | ⟨n, h1, h2, h3, h4⟩
  · refine .inl ⟨h1, fun i hi => ?_⟩
    by_cases e : i = j
    · rw [e]; exact hd
    · exact h2 i (by omega)
  · refine .inr ⟨n, h1, by omega, h3, fun i hi hdi => ?_⟩
    by_cases e : i = j
    · rw [e, hd] at hdi; cases hdi
    · exact h4 i (by omega) hdi

theorem PickM.first {L : List Req} {t j : Nat} {x : Int} (h : PickM L t j x) (hx : x < 0) (hd : doneB L t j = false) : PickM L t (j + 1) j := by
  rcases h with ⟨h1, h2⟩ | ⟨n, h1, h2, h3, h4⟩
  · refine .inr ⟨j, rfl, by omega, hd, fun i hi hdi => ?_⟩
    by_cases e : i = j
    · rw [e]; exact (soonB_swo L).irrefl j
    · rw [h2 i (by omega)] at hdi; cases hdi
  · omega

theorem PickM.stays {L : List Req} {t j n : Nat} (h : PickM L t j (n : Int)) (hs : soonB L j n = false) : PickM L t (j + 1) (n : Int) := by
  rcases h with ⟨h1, h2⟩ | ⟨n', h1, h2, h3, h4⟩
  · omega
  · obtain rfl : n = n' := by omega
    refine .inr ⟨n, rfl, by omega, h3, fun i hi hdi => ?_⟩
    by_cases e : i = j
    · rw [e]; exact hs
    · exact h4 i (by omega) hdi

theorem PickM.turns {L : List Req} {t j n : Nat} (h : PickM L t j (n : Int)) (hd : doneB L t j = false) (hs : soonB L j n = true) : PickM L t (j + 1) (j : Int) := by
  rcases h with ⟨h1, h2⟩ | ⟨n', h1, h2, h3, h4⟩
  · omega
  · obtain rfl : n = n' := by omega
    refine .inr ⟨j, rfl, by omega, hd, fun i hi hdi => ?_⟩
    by_cases e : i = j
    · rw [e]; exact (soonB_swo L).irrefl j
    · cases hc : soonB L i j
      · rfl
      · have := (soonB_swo L).trans _ _ _ hc hs
        rw [h4 i (by omega) hdi] at this
        cases this

theorem PickM.done {L : List Req} {t : Nat} {x : Int} (ht : t < L.length) (h : PickM L t L.length x) : x = ((ordI L).getD t 0 : Nat) := by
  rcases h with ⟨h1, h2⟩ | ⟨n, h1, h2, h3, h4⟩
  · have := h2 _ (ordI_lt ht)
    rw [doneB_next ht] at this
    cases this
  · rw [h1, pick_first ht h2 h3 h4]

/-! ### What is answered to it -/
theorem meetA_comm (x y : Ask) : meetA x y = meetA y x := by
  unfold meetA
  rw [Bool.eq_iff_iff]
  simp only [Bool.or_eq_true, Bool.and_eq_true, decide_eq_true_eq]
  omega

theorem verdict_nil {al : Ask → Int} {x : Ask} : verdictA al [] x = al x := by
  unfold verdictA
  split
  · rename_i h; rw [h]; rfl
  · rfl

theorem verdict_hit {al : Ask → Int} {V : List Ask} {x y : Ask} (h : verdictA al V x = 0) (hm : meetA y x = true) : verdictA al (V ++ [y]) x = 6 := by
  have h0 := verdict_zero h
  unfold verdictA
  rw [if_pos h0, if_pos (by rw [List.any_append, Bool.or_eq_true]; exact .inr (by simp [hm]))]

theorem verdict_past {al : Ask → Int} {V : List Ask} {x y : Ask} (h : verdictA al V x = 0) (hm : meetA y x = false) : verdictA al (V ++ [y]) x = 0 := by
  have h0 := verdict_zero h
  unfold verdictA at h ⊢
  rw [if_pos h0] at h ⊢
  rw [List.any_append]
  split
  · rename_i ha
    rw [Bool.or_eq_true] at ha
    rcases ha with ha | ha
    · rw [if_pos ha] at h; exact h
    · simp [hm] at ha
  · rfl

theorem verdict_stays {al : Ask → Int} {V : List Ask} {x y : Ask} (h : verdictA al V x ≠ 0) : verdictA al (V ++ [y]) x = verdictA al V x := by
  unfold verdictA at h ⊢
  by_cases h0 : al x = 0
  · rw [if_pos h0] at h ⊢
    rw [if_pos h0]
    by_cases ha : V.any (fun y => meetA y x) = true
    · rw [if_pos ha, if_pos (by rw [List.any_append, ha]; rfl)]
    · rw [if_neg ha] at h; exact absurd rfl h
  · rw [if_neg h0, if_neg h0]

theorem step_fst {al : Ask → Int} {st : (Nat → Int) × List Ask} {x : Ask} (h : st.1 x.i = 0) : (stepA al st x).1 = fun j => if j = x.i then verdictA al st.2 x else st.1 j := by
  unfold stepA
  split
  · rename_i hv
    funext j
    by_cases e : j = x.i
    · rw [if_pos e, hv, e]; exact h
    · rw [if_neg e]
  · rfl

theorem step_snd {al : Ask → Int} {st : (Nat → Int) × List Ask} {x : Ask} : (stepA al st x).2 = if verdictA al st.2 x = 0 then st.2 ++ [x] else st.2 := by
  unfold stepA
  split <;> rfl

/-- What is answered, and who is accepted, when some are taken. -/
def stQ (al : Ask → Int) (L : List Req) (t : Nat) : (Nat → Int) × List Ask := runA al ((askedI L).take t)

theorem askedI_length (L : List Req) : (askedI L).length = L.length := by unfold askedI; rw [List.length_map, ordI_length]

theorem asked_at {L : List Req} {t : Nat} (ht : t < L.length) : (askedI L).getD t default = askI L ((ordI L).getD t 0) := by
  have h : t < (ordI L).length := by rw [ordI_length]; exact ht
  unfold askedI
  rw [List.getD_eq_getElem?_getD, List.getElem?_map, List.getElem?_eq_getElem h, List.getD_eq_getElem?_getD, List.getElem?_eq_getElem h]
  rfl

theorem stQ_zero {al : Ask → Int} {L : List Req} : stQ al L 0 = (fun _ => 0, []) := rfl

theorem stQ_step {al : Ask → Int} {L : List Req} {t : Nat} (ht : t < L.length) : stQ al L (t + 1) = stepA al (stQ al L t) (askI L ((ordI L).getD t 0)) := by
  unfold stQ
  rw [runA_take (by rw [askedI_length]; exact ht), asked_at ht]

theorem stQ_all {al : Ask → Int} {L : List Req} : stQ al L L.length = runA al (askedI L) := by
  unfold stQ
  rw [List.take_of_length_le (by rw [askedI_length]; omega)]

theorem stQ_ok {al : Ask → Int} {L : List Req} {t : Nat} : RunOk al ((askedI L).take t) (stQ al L t) := by
  refine runA_ok ?_
  have e : (askedI L).map (·.i) = ordI L := by
    unfold askedI
    rw [List.map_map]
    exact List.map_id _
  rw [List.map_take, e]
  exact (ordI_nodup L).sublist (List.take_sublist t _)

theorem stQ_rest {al : Ask → Int} {L : List Req} {t : Nat} (ht : t < L.length) : (stQ al L t).1 ((ordI L).getD t 0) = 0 := by
  refine stQ_ok.rest _ ?_
  have e : (askedI L).map (·.i) = ordI L := by
    unfold askedI
    rw [List.map_map]
    exact List.map_id _
  rw [List.map_take, e]
  intro h
  have := doneB_next ht
  unfold doneB at this
  rw [decide_eq_false_iff_not] at this
  exact this h

/-- What is known of those that are accepted. -/
theorem stQ_acc {E : List Ent} {S : List (Int × Int × Int)} {R : List (Tx × Int)} {out win : Int} {L : List Req} {t : Nat} : ∀ y ∈ (stQ (aloneM E S R out win L) L t).2, y = askI L y.i ∧ y.i < L.length ∧ OwnOk R out win (L.getD y.i default) := by
  intro y hy
  obtain ⟨h1, h2⟩ := stQ_ok.acc y hy
  have hm := List.mem_of_mem_take h1
  unfold askedI at hm
  obtain ⟨i, hi, rfl⟩ := List.mem_map.1 hm
  have ha := fold_zero _ _ h2 _ h1 rfl
  exact ⟨rfl, List.mem_range.1 ((ordI_perm L).mem_iff.1 hi), alone_own ha rfl rfl rfl rfl⟩

end Go.Proofs.YtbampfkmgjfofaaGreatDoor

namespace Go.Proofs.YtbampfkmgjfofaaGreatDoor
open Go.RowKit

theorem Tryz.info4b : (Tryz.prog.info? 4).map (fun i => (i.zero, i.size, i.bytes)) = some (some (.bool false), 1, 1) := by kernel_rfl
theorem Tryz.info99b : (Tryz.prog.info? 99).map (fun i => (i.zero, i.size, i.bytes)) = some (some (.agg #[.int .i64 0, .int .i64 0, .int .i64 0, .int .i64 0, .slice none 0 0]), 5, 56) := by kernel_rfl

/-- Those that are accepted, as they lie in memory. -/
def AccOk (xs : List Value) (V : List Ask) : Prop :=
  xs.length = V.length * 5 ∧ ∀ j, j < V.length → ∃ b m pp pn pc, xs[j * 5]? = some (.int .i64 b) ∧ xs[j * 5 + 1]? = some (.int .i64 m) ∧ xs[j * 5 + 2]? = some (.int .i64 (V.getD j default).f) ∧ xs[j * 5 + 3]? = some (.int .i64 (V.getD j default).c) ∧ xs[j * 5 + 4]? = some (.slice pp pn pc)

theorem AccOk.snoc {xs : List Value} {V : List Ask} (h : AccOk xs V) (x : Ask) {b m : Int} {pp : Option Addr} {pn pc : Nat} : AccOk (xs ++ [.int .i64 b, .int .i64 m, .int .i64 x.f, .int .i64 x.c, .slice pp pn pc]) (V ++ [x]) := by
  have hl := h.1
  refine ⟨by rw [List.length_append, List.length_append, hl, Nat.add_mul]; rfl, fun i hi => ?_⟩
  rw [List.length_append, List.length_singleton] at hi
  by_cases e : i < V.length
  · obtain ⟨b', m', pp', pn', pc', k0, k1, k2, k3, k4⟩ := h.2 i e
    have hg : (V ++ [x]).getD i default = V.getD i default := by simp [List.getD_eq_getElem?_getD, List.getElem?_append_left e]
    rw [hg]
    refine ⟨b', m', pp', pn', pc', ?_, ?_, ?_, ?_, ?_⟩
    all_goals rw [List.getElem?_append_left (by rw [hl]; omega)]; assumption
  · have e' : i = V.length := by omega
    subst e'
    have hg : (V ++ [x]).getD V.length default = x := by simp [List.getD_eq_getElem?_getD]
    rw [hg]
    refine ⟨b, m, pp, pn, pc, ?_, ?_, ?_, ?_, ?_⟩
    all_goals rw [List.getElem?_append_right (by rw [hl]; omega), hl]; simp

/-- What ref.Decide returns, with its memory. -/
def RefDecidePost (D : Nat → Int) (rn : Nat) (w : World) (e : Ending) (w' : World) : Prop :=
  ∃ ab, e = .returned (.slice (some ⟨ab, 0, none⟩) rn rn) ∧ IntsAt w' (some ⟨ab, 0, none⟩) rn D ∧ Below w.heap.size w w'

/-- The memory of ref.Decide, when some requests are taken. -/
structure DecAt (W0 : World) (L : List Req) (al : Ask → Int) (rn t : Nat) (acc : Value) (wr : World) : Prop where
  bel : Below W0.heap.size W0 wr
  row : wr.rowIs W0.heap.size 3 rn (fun j => .int .i64 ((stQ al L t).1 j))
  don : wr.rowIs (W0.heap.size + 1) 4 rn (fun j => .bool (doneB L t j))
  acc : ∃ xs, wr.ownsRow (W0.heap.size + 2) 99 5 acc (stQ al L t).2.length xs ∧ AccOk xs (stQ al L t).2

theorem stQ_len {al : Ask → Int} {L : List Req} {t : Nat} (ht : t ≤ L.length) : (stQ al L t).2.length ≤ t := by
  induction t with
  | zero => simp [stQ_zero]
  | succ t ih =>
    rw [stQ_step (by omega), step_snd]
    have := ih (by omega)
    split
    · rw [List.length_append, List.length_singleton]; omega
    · omega

theorem owns_form {w : World} {base : Nat} {e : TypeId} {size : Nat} {v : Value} {n : Nat} {xs : List Value} (h : w.ownsRow base e size v n xs) : ∃ a cap, v = .slice a n cap := by
  rcases h.2 with ⟨h1, h2⟩ | ⟨g, cap, cur, h1, _⟩
  · exact ⟨none, 0, by rw [h1, h2]⟩
  · exact ⟨_, cap, h1⟩

/-- The memory of ref.Decide, while a request is held against those that are accepted. -/
structure TryAt (W0 : World) (L : List Req) (al : Ask → Int) (rn t h kb : Nat) (qc5 : List Value) (av : Value) (v : Int) (W : World) : Prop where
  bel : Below W0.heap.size W0 W
  row : W.rowIs W0.heap.size 3 rn (fun j => .int .i64 (if j = h then v else (stQ al L t).1 j))
  don : W.rowIs (W0.heap.size + 1) 4 rn (fun j => .bool (doneB L (t + 1) j))
  accs : ∃ xs, W.ownsRow (W0.heap.size + 2) 99 5 av (stQ al L t).2.length xs ∧ AccOk xs (stQ al L t).2
  new : ∀ i, i < 5 → W.cell? ⟨kb, i, none⟩ = qc5[i]?
  far : W0.heap.size + 2 ≤ kb ∧ av.ownBlock ≠ some kb

theorem TryAt.grown {W0 : World} {L : List Req} {al : Ask → Int} {rn t h kb : Nat} {qc5 : List Value} {av : Value} {v : Int} {W W' : World} (hq : qc5.length = 5) (H : TryAt W0 L al rn t h kb qc5 av v W) (hb : Below W.heap.size W W') : TryAt W0 L al rn t h kb qc5 av v W' :=
  ⟨below_then H.bel hb, H.row.of_block (hb.block _ H.row.lt), H.don.of_block (hb.block _ H.don.lt), by
    obtain ⟨xs, h1, h2⟩ := H.accs
    exact ⟨xs, owns_below hb h1, h2⟩, fun i hi => by
      have h1 := H.new i hi
      rw [List.getElem?_eq_getElem (by omega)] at h1 ⊢
      exact cell_grown hb h1, H.far⟩

theorem TryAt.set {W0 : World} {L : List Req} {al : Ask → Int} {rn t h kb : Nat} {qc5 : List Value} {av : Value} {v : Int} {W : World} (H : TryAt W0 L al rn t h kb qc5 av v W) (v' : Int) : TryAt W0 L al rn t h kb qc5 av v' (W.setCell ⟨W0.heap.size, h, none⟩ (.int .i64 v')) := by
  refine ⟨H.bel.setCell (p := ⟨W0.heap.size, h, none⟩) (Nat.le_refl _) _, ?_, H.don.setOther (a := ⟨W0.heap.size, h, none⟩) (by simp) _, ?_, ?_, H.far⟩
  · refine (H.row.set h (.int .i64 v')).congr fun j _ => ?_
    by_cases e : j = h
    · simp [e]
    · simp [e]
  · obtain ⟨xs, h1, h2⟩ := H.accs
    exact ⟨xs, ownsRow_setCell_below h1 (by show W0.heap.size < W0.heap.size + 2; omega) _, h2⟩
  · intro i hi
    rw [← H.new i hi]
    have := H.far.1
    exact World.cell?_of_block (Below.heap_setCell _ _ _ _ (by show kb ≠ W0.heap.size; omega))

set_option maxRecDepth 100000 in
set_option maxHeartbeats 8000000 in
theorem refDecide_any (l : Lex) (a1 a2 a3 : Option Addr) (n1 n2 n3 c1 c2 c3 : Nat) (S : List (Int × Int × Int)) (sa : Option Addr) (sn sc : Nat) (R : List (Tx × Int)) (out win : Int) (wa : Option Addr) (wn wc : Nat) (L : List Req) (ra : Option Addr) (rn rc : Nat) (w : World)
    (h1 : l.nums.length = n1) (h2 : l.names.length = n2) (h3 : l.nots.length = n3) (hLx : LexAt w a1 a2 a3 l) (hs : S.length = sn) (hsn : sn ≤ 1000) (hSw : SwapsAt w sa S) (hR : R.length = wn) (hwn : wn ≤ 90) (hN : Nums w wa R) (hRs : ∀ x ∈ R, x.1.size ≤ 1000)
    (ho : 0 ≤ out ∧ out ≤ 100000) (hw : 0 ≤ win ∧ win ≤ 100000) (hL : L.length = rn) (hrn : rn ≤ 100) (hQ : ReqsAt w ra L) (hp : ∀ q ∈ L, q.put.length ≤ 1000 ∧ (∀ t ∈ q.put, t.size ≤ 1000) ∧ I64 q.c) :
    Calls Tryz.prog 37 #[.agg #[.slice a1 n1 c1, .slice a2 n2 c2, .slice a3 n3 c3], .slice sa sn sc, .agg #[.slice wa wn wc, .int .i64 out, .int .i64 win], .slice ra rn rc] w
      (RefDecidePost (stQ (aloneM (entries l) S R out win L) L rn).1 rn w) := by
  have H1 := hid h1; have H2 := hid h2; have H3 := hid h3; have HS := hid hs; have HR := hid hR; have HRS := hid hRs; have HL := hid hL; have HP := hid hp; have HO := hid ho; have HW := hid hw
  clear h1 h2 h3 hs hR hRs hL hp ho hw
  obtain ⟨al, hal⟩ : ∃ al, aloneM (entries l) S R out win L = al := ⟨_, rfl⟩
  rw [hal]
  have HAL := hid hal
  clear hal
  obtain ⟨i9, hi9, hz0, hz1, hz2⟩ := info_parts Tryz.info99b
  have hmk : ∀ W : World, (Instr.makeSlice 71 (.int .i64 (rn : Int)) (.int .i64 (rn : Int))).run Tryz.prog W = .ok (.slice (some ⟨W.heap.size, 0, none⟩) rn rn) (W.alloc (.cells (madeCells #[.int .i64 0] rn) 3)) := fun W =>
    run_make_row' (P := Tryz.prog) 71 3 (.int .i64 0) 8 Tryz.underlying71 Tryz.info3 rfl .i64 .i64 rn (by omega) (by omega) W
  have hmo : ∀ W : World, (Instr.makeSlice 133 (.int .i64 (rn : Int)) (.int .i64 (rn : Int))).run Tryz.prog W = .ok (.slice (some ⟨W.heap.size, 0, none⟩) rn rn) (W.alloc (.cells (madeCells #[.bool false] rn) 4)) := fun W =>
    run_make_row' (P := Tryz.prog) 133 4 (.bool false) 1 Tryz.underlying133 Tryz.info4b rfl .i64 .i64 rn (by omega) (by omega) W
  obtain ⟨W0, hW0⟩ : ∃ W, W = (w.alloc (.cells #[.slice a1 n1 c1, .slice a2 n2 c2, .slice a3 n3 c3] 26)).alloc (.cells #[.slice wa wn wc, .int .i64 out, .int .i64 win] 56) := ⟨_, rfl⟩
  have hB0 : Below w.heap.size w W0 := by rw [hW0]; exact ((Below.refl _ w).alloc (Nat.le_refl _) _).alloc (by simp) _
  have z0 : W0.heap.size = w.heap.size + 1 + 1 := by rw [hW0]; simp
  have x0 : W0.cell? ⟨w.heap.size, 0, none⟩ = some (.slice a1 n1 c1) := by rw [hW0]; simp [go_sem]
  have x1 : W0.cell? ⟨w.heap.size, 1, none⟩ = some (.slice a2 n2 c2) := by rw [hW0]; simp [go_sem]
  have x2 : W0.cell? ⟨w.heap.size, 2, none⟩ = some (.slice a3 n3 c3) := by rw [hW0]; simp [go_sem]
  have y0 : W0.cell? ⟨w.heap.size + 1, 0, none⟩ = some (.slice wa wn wc) := by rw [hW0]; simp [go_sem]
  have y1 : W0.cell? ⟨w.heap.size + 1, 1, none⟩ = some (.int .i64 out) := by rw [hW0]; simp [go_sem]
  have y2 : W0.cell? ⟨w.heap.size + 1, 2, none⟩ = some (.int .i64 win) := by rw [hW0]; simp [go_sem]
  replace hLx := hLx.grown hB0
  replace hSw := hSw.grown hB0
  replace hN := hN.grown hB0
  replace hQ := hQ.grown hB0
  obtain ⟨W1, hW1⟩ : ∃ W, W = (W0.alloc (.cells (madeCells #[.int .i64 0] rn) 3)).alloc (.cells (madeCells #[.bool false] rn) 4) := ⟨_, rfl⟩
  have hD0 : Hid (DecAt W0 L al rn 0 (.slice none 0 0) W1) := hid (by
    refine ⟨by rw [hW1]; exact ((Below.refl _ _).alloc (Nat.le_refl _) _).alloc (by simp) _, ?_, ?_, [], World.ownsRow_nil _ _ _ _, rfl, fun j hj => ?_⟩
    · rw [stQ_zero, hW1]; exact (World.rowIs_made W0 (.int .i64 0) rn 3).alloc _
    · have h := World.rowIs_made (W0.alloc (.cells (madeCells #[.int .i64 0] rn) 3)) (.bool false) rn 4
      rw [hW1]
      have e : (W0.alloc (.cells (madeCells #[.int .i64 0] rn) 3)).heap.size = W0.heap.size + 1 := by simp
      rw [e] at h
      refine h.congr fun i _ => ?_
      rw [doneB_zero]
    · rw [stQ_zero] at hj; exact absurd hj (by simp))
  have HB := hid hB0
  have HZ := hid z0
  clear hB0
  go_enter Tryz.func37, Tryz.ntmps37
  go_wp2_with fail
  rw [← hW0]
  rw [← hW1]
  clear hW0 hW1 hmk hmo
  go_loopw [11, 12] (fun acc i wr => ∃ t : Nat, t ≤ rn ∧ i = .int .i64 t ∧ Hid (DecAt W0 L al rn t acc wr)) (fun _ i _ => rn - (intOf i).toNat)
  case atStart => exact ⟨0, Nat.zero_le _, rfl, hD0⟩
  case round =>
    obtain ⟨t, ht, rfl, HD⟩ := hrel
    have hBr := HD.out.bel
    have hzr := hBr.size
    by_cases hlt : t < rn
    · have hlt' : (t : Int) < (rn : Int) := by omega
      have HT : Hid (t < L.length) := hid (by rw [HL.out]; exact hlt)
      clear hlt
      obtain ⟨Wr, hWr⟩ : ∃ W, W = wr := ⟨_, rfl⟩
      rw [← hWr] at HD hBr hzr ⊢
      clear hWr
      go_wp2_with fail
      go_loopw [13, 14] (fun nx i wi => ∃ (j : Nat) (x : Int), j ≤ rn ∧ i = .int .i64 j ∧ nx = .int .i64 x ∧ Hid (PickM L t j x) ∧ Below Wr.heap.size Wr wi) (fun _ i _ => rn - (intOf i).toNat)
      case atStart => exact ⟨0, -1, Nat.zero_le _, rfl, rfl, hid PickM.zero, Below.refl _ _⟩
      case round =>
        obtain ⟨j, x, hj, rfl, rfl, HPK, hb⟩ := hrel
        have hzi := hb.size
        by_cases hjl : j < rn
        · have hjl' : (j : Int) < (rn : Int) := by omega
          have j0 : (0 : Int) ≤ (j : Int) := by omega
          have d0 := cell_grown hb (HD.out.don.cell (i := j) hjl)
          rw [HZ.out] at d0
          have gd := lt_of_cell d0
          obtain ⟨db, hdb⟩ : ∃ b, doneB L t j = b := ⟨_, rfl⟩
          rw [hdb] at d0
          cases db
          · rcases HPK.out with ⟨hx, -⟩ | ⟨n, hx, hn, -, -⟩
            · subst hx
              have HNX := hid (HPK.out.first (by omega) hdb)
              clear hdb HPK
              go_wp2
              go_roundw
              case rel => exact ⟨j + 1, _, by omega, by go_num, rfl, HNX, hb⟩
              case measure => simp [intOf]; omega
            · subst hx
              have n0 : (0 : Int) ≤ (n : Int) := by omega
              have n1' : ¬ (n : Int) < 0 := by omega
              have hQi := (hQ.grown hBr).grown hb
              go_wp2_with fail
              refine (sooner_any L rn rc ra j n _ HL.out hQi hjl (by omega)).mono ?_
              rintro e w5 ⟨rfl, hb5⟩
              cases hso : soonB L j n
              · have HNX := hid (HPK.out.stays hso)
                clear hdb HPK
                go_wp2
                go_roundw
                case rel => exact ⟨j + 1, _, by omega, by go_num, rfl, HNX, below_then hb hb5⟩
                case measure => simp [intOf]; omega
              · have HNX := hid (HPK.out.turns hdb hso)
                clear hdb HPK
                go_wp2
                go_roundw
                case rel => exact ⟨j + 1, _, by omega, by go_num, rfl, HNX, below_then hb hb5⟩
                case measure => simp [intOf]; omega
          · have HNX := hid (HPK.out.past hdb)
            clear hdb HPK
            go_wp2
            go_roundw
            case rel => exact ⟨j + 1, _, by omega, by go_num, rfl, HNX, hb⟩
            case measure => simp [intOf]; omega
        · have hjn : j = rn := by omega
          have hx : x = ((ordI L).getD t 0 : Nat) := (show PickM L t L.length x by rw [HL.out, ← hjn]; exact HPK.out).done HT.out
          clear HPK hjn
          obtain ⟨h, hh⟩ : ∃ h, (ordI L).getD t 0 = h := ⟨_, rfl⟩
          rw [hh] at hx
          subst hx
          have hhl : h < rn := by have := ordI_lt HT.out; rw [hh, HL.out] at this; exact this
          have hhl' : (h : Int) < (rn : Int) := by omega
          have h0 : (0 : Int) ≤ (h : Int) := by omega
          have HH := hid hh
          clear hh
          have HD2 : Hid (DecAt W0 L al rn t _ wr) := hid ⟨below_then hBr hb, HD.out.row.of_block (hb.block _ HD.out.row.lt), HD.out.don.of_block (hb.block _ HD.out.don.lt), by
            obtain ⟨xs, h1, h2⟩ := HD.out.acc
            exact ⟨xs, owns_below hb h1, h2⟩⟩
          obtain ⟨Wi, hWi⟩ : ∃ W, W = wr := ⟨_, rfl⟩
          rw [← hWi] at HD2 ⊢
          clear hWi HD hb hBr hzi hzr HT
          have hBi := HD2.out.bel
          have hzi := hBi.size
          have hQi := hQ.grown hBi
          obtain ⟨b, off, pq, pcq, hra, e0, e1, e2, e3, e4, -, e6⟩ := hQ h (by rw [HL.out]; exact hhl)
          subst hra
          have gb0 : b < W0.heap.size := lt_of_cell e0
          replace e0 := cell_grown hBi e0
          replace e1 := cell_grown hBi e1
          replace e2 := cell_grown hBi e2
          replace e3 := cell_grown hBi e3
          replace e4 := cell_grown hBi e4
          have hqp := HP.out (L.getD h default) (by rw [List.getD_eq_getElem?_getD, List.getElem?_eq_getElem (by rw [HL.out]; exact hhl), Option.getD_some]; exact List.getElem_mem _)
          obtain ⟨q, hq⟩ : ∃ q, L.getD h default = q := ⟨_, rfl⟩
          rw [hq] at e0 e1 e2 e3 e4 e6 hqp
          have HQ := hid hq
          have HQP := hid hqp
          clear hq hqp
          obtain ⟨qb, qm, qf, qc, qp⟩ := q
          obtain ⟨pn, hpn⟩ : ∃ n, qp.length = n := ⟨_, rfl⟩
          simp only at e0 e1 e2 e3 e4 e6
          rw [hpn] at e4
          have HPN := hid hpn
          clear hpn
          have dh := HD2.out.don.cell (i := h) hhl
          have df := HD2.out.don.frozen h
          have ah := HD2.out.row.cell (i := h) hhl
          have af := HD2.out.row.frozen h
          have dl := HD2.out.don.lt
          rw [HZ.out] at dh df ah af dl gb0
          have q0 := cell_grown hBi x0
          have q1 := cell_grown hBi x1
          have q2 := cell_grown hBi x2
          have r0 := cell_grown hBi y0
          have r1 := cell_grown hBi y1
          have r2 := cell_grown hBi y2
          have gb := lt_of_cell e0
          have gx := lt_of_cell q0
          have gy := lt_of_cell r0
          have nb : ¬ b = w.heap.size + 1 + 1 + 1 := by omega
          have nb1 : ¬ w.heap.size + 1 + 1 + 1 = b := by omega
          go_wp2_with fail
          obtain ⟨kb, hkb⟩ : ∃ n, Wi.heap.size = n := ⟨_, rfl⟩
          obtain ⟨W2, hW2⟩ : ∃ W, W = (Wi.setCell ⟨w.heap.size + 1 + 1 + 1, h, none⟩ (.bool true)).alloc (.cells #[.int .i64 qb, .int .i64 qm, .int .i64 qf, .int .i64 qc, .slice pq pn pcq] 99) := ⟨_, rfl⟩
          have hA2 : Hid (TryAt W0 L al rn t h kb [.int .i64 qb, .int .i64 qm, .int .i64 qf, .int .i64 qc, .slice pq pn pcq] u11 0 W2) := hid (by
              refine ⟨?_, ?_, ?_, ?_, ?_, ?_⟩
              · rw [hW2]; exact (hBi.setCell (p := ⟨w.heap.size + 1 + 1 + 1, h, none⟩) (by show W0.heap.size ≤ w.heap.size + 1 + 1 + 1; rw [HZ.out]; omega) _).alloc (by simp; omega) _
              · rw [hW2]
                refine ((HD2.out.row.setOther (a := ⟨w.heap.size + 1 + 1 + 1, h, none⟩) (by rw [HZ.out]; simp) _).alloc _).congr fun j _ => ?_
                by_cases e : j = h
                · rw [if_pos e, e, ← HH.out, stQ_rest (by rw [HL.out]; omega)]
                · rw [if_neg e]
              · rw [hW2, HZ.out]
                have h1 := HD2.out.don
                rw [HZ.out] at h1
                refine ((h1.set h (.bool true)).alloc _).congr fun j _ => ?_
                rw [doneB_step (by rw [HL.out]; omega), HH.out]
                by_cases e : j = h
                · simp [e]
                · simp [e]
              · obtain ⟨xs, h1, h2⟩ := HD2.out.acc
                refine ⟨xs, ?_, h2⟩
                rw [hW2]
                exact owns_below (below_alloc _ _) (ownsRow_setCell_below h1 (by show w.heap.size + 1 + 1 + 1 < W0.heap.size + 2; rw [HZ.out]; omega) _)
              · intro i hi
                rw [hW2, ← hkb]
                rcases (by omega : i = 0 ∨ i = 1 ∨ i = 2 ∨ i = 3 ∨ i = 4) with rfl | rfl | rfl | rfl | rfl <;> simp [go_sem]
              · refine ⟨by rw [HZ.out]; omega, fun e => ?_⟩
                obtain ⟨xs, h1, -⟩ := HD2.out.acc
                have := (h1.lt kb e).2
                omega)
          rw [← hW2]
          have hB2 : Below W0.heap.size W0 W2 := hA2.out.bel
          have hal2 : aloneQ (entries l) S R out win ⟨qb, qm, qf, qc, qp⟩ = al (askI L h) := by rw [← HAL.out, aloneQ_of, HQ.out]
          clear hW2 HD2 dh df ah af dl q0 q1 q2 r0 r1 r2 e0 e1 e2 e3 e4 hQi gb gx gy hBi hzi
          refine (refAlone_any l a1 a2 a3 n1 n2 n3 c1 c2 c3 S sa sn sc R out win wa wn wc ⟨qb, qm, qf, qc, qp⟩ pq pn pcq W2 H1.out H2.out H3.out (hLx.grown hB2) HS.out hsn (hSw.grown hB2) HR.out (by omega) (hN.grown hB2) HRS.out HO.out HW.out HPN.out (by have h2 : qp.length = pn := HPN.out; have h3 : qp.length ≤ 1000 := HQP.out.1; omega) (e6.grown hB2) HQP.out.2.1 HQP.out.2.2).mono ?_
          rintro e w5 ⟨rfl, hb5⟩
          rw [hal2]
          obtain ⟨v0, hv0⟩ : ∃ v, al (askI L h) = v := ⟨_, rfl⟩
          rw [hv0]
          have HV0 := hid hv0
          have hA5 := hA2.out.grown rfl hb5
          clear hv0 hal2 hA2 hB2 hb5 e6
          have ah := hA5.row.cell (i := h) hhl
          have af := hA5.row.frozen h
          have ll := hA5.row.lt
          have hA6 := hA5.set v0
          rw [HZ.out] at ah af ll hA6
          obtain ⟨av, hav⟩ : ∃ a, a = u11 := ⟨_, rfl⟩
          rw [← hav] at hA6 ⊢
          have HA6 := hid hA6
          clear hA5 hA6 hav
          obtain ⟨xs, hxs, hacc⟩ := HA6.out.accs
          obtain ⟨aa, cap, rfl⟩ := owns_form hxs
          clear hxs hacc xs
          obtain ⟨nv, hnv⟩ : ∃ n, (stQ al L t).2.length = n := ⟨_, rfl⟩
          rw [hnv] at HA6 ⊢
          have HNV := hid hnv
          clear hnv
          go_wp2_with fail
          obtain ⟨W6, hW6⟩ : ∃ W, W = w5.setCell ⟨w.heap.size + 1 + 1, h, none⟩ (.int .i64 v0) := ⟨_, rfl⟩
          rw [← hW6] at HA6 ⊢
          clear hW6 ah af ll
          have hnv100 : nv ≤ 100 := by
            have h1 := stQ_len (al := al) (L := L) (t := t) (by rw [HL.out]; exact ht)
            rw [HNV.out] at h1
            omega
          have HVA : Hid (∀ y ∈ (stQ al L t).2, y = askI L y.i ∧ y.i < L.length ∧ OwnOk R out win (L.getD y.i default)) := hid (by rw [← HAL.out]; exact stQ_acc)
          go_loopw [16] (fun i wj => ∃ j : Nat, j ≤ nv ∧ i = .int .i64 j ∧ Hid (TryAt W0 L al rn t h kb [.int .i64 qb, .int .i64 qm, .int .i64 qf, .int .i64 qc, .slice pq pn pcq] (.slice aa nv cap) (verdictA al ((stQ al L t).2.take j) (askI L h)) wj)) (fun i _ => nv - (intOf i).toNat)
          case atStart => exact ⟨0, Nat.zero_le _, rfl, hid (by rw [List.take_zero, verdict_nil, HV0.out]; exact HA6.out)⟩
          case round =>
            clear HA6
            obtain ⟨j, hj, rfl, HJ⟩ := hrel
            have ah := HJ.out.row.cell (i := h) hhl
            have af := HJ.out.row.frozen h
            have ll := HJ.out.row.lt
            rw [if_pos rfl] at ah
            rw [HZ.out] at ah af ll
            obtain ⟨vj, hvj⟩ : ∃ v, verdictA al ((stQ al L t).2.take j) (askI L h) = v := ⟨_, rfl⟩
            rw [hvj] at ah
            have HVJ := hid hvj
            clear hvj
            by_cases hlt : j < nv
            · have hlt' : (j : Int) < (nv : Int) := by omega
              have j0 : (0 : Int) ≤ (j : Int) := by omega
              have hlv : j < (stQ al L t).2.length := by rw [HNV.out]; exact hlt
              have HTS : Hid ((stQ al L t).2.take (j + 1) = (stQ al L t).2.take j ++ [(stQ al L t).2.getD j default]) := hid (take_next default hlv)
              by_cases hv0 : vj = 0
              · subst hv0
                obtain ⟨xs, hx, hxl, hxo⟩ := HJ.out.accs
                rw [HNV.out] at hx
                obtain ⟨yb, ym, pp, pl, pcl, k0, k1, k2, k3, k4⟩ := hxo j hlv
                obtain ⟨g, -, haa, hcs⟩ := owns_cells hx (by omega)
                subst haa
                have c0 := hcs _ _ k0
                have c1 := hcs _ _ k1
                have c2 := hcs _ _ k2
                have c3 := hcs _ _ k3
                have c4 := hcs _ _ k4
                have m0 := (HJ.out.new 0 (by decide)).trans rfl
                have m1 := (HJ.out.new 1 (by decide)).trans rfl
                have m2 := (HJ.out.new 2 (by decide)).trans rfl
                have m3 := (HJ.out.new 3 (by decide)).trans rfl
                have m4 := (HJ.out.new 4 (by decide)).trans rfl
                obtain ⟨y, hy⟩ : ∃ y, (stQ al L t).2.getD j default = y := ⟨_, rfl⟩
                have hyv := HVA.out y (by rw [← hy, List.getD_eq_getElem?_getD, List.getElem?_eq_getElem hlv, Option.getD_some]; exact List.getElem_mem _)
                rw [hy] at c2 c3
                have HY := hid hy
                clear hx hxl hxo hcs k0 k1 k2 k3 k4 hy xs hlv
                have yo := hyv.2.2
                have yf0 : y.f = (L.getD y.i default).f := by rw [hyv.1]; rfl
                have yc0 : y.c = (L.getD y.i default).c := by rw [hyv.1]; rfl
                have qo : OwnOk R out win (L.getD h default) := by
                  have h1 := verdict_zero HVJ.out
                  rw [← HAL.out] at h1
                  exact alone_own h1 rfl rfl rfl rfl
                rw [HQ.out] at qo
                have hRl : (R.length : Int) = wn := by rw [HR.out]
                obtain ⟨yf, hyf⟩ : ∃ z, y.f = z := ⟨_, rfl⟩
                obtain ⟨yc, hyc⟩ : ∃ z, y.c = z := ⟨_, rfl⟩
                have s1 : 0 ≤ qf ∧ qf ≤ 100 := ⟨qo.f0, by have h1 : qf + qc ≤ R.length := qo.fc; have h2 : 0 ≤ qc := qo.c0; omega⟩
                have s2 : 0 ≤ qc ∧ qc ≤ 8 := ⟨qo.c0, qo.c8⟩
                have s3 : 0 ≤ yf ∧ yf ≤ 100 := by
                  have h1 := yo.fc; have h2 := yo.c0; have h3 := yo.f0
                  rw [← yf0, ← yc0] at h1
                  rw [← yf0] at h3
                  rw [← yc0] at h2
                  omega
                have s4 : 0 ≤ yc ∧ yc ≤ 8 := by
                  have h2 := yo.c0; have h3 := yo.c8
                  rw [← yc0] at h2 h3
                  omega
                have hme : meetR qf qc yf yc = meetA y (askI L h) := by
                  have e1 : (askI L h).f = qf := by show (L.getD h default).f = qf; rw [HQ.out]
                  have e2 : (askI L h).c = qc := by show (L.getD h default).c = qc; rw [HQ.out]
                  have h1 := meetR_meetA (x := askI L h) (y := y) (by rw [e2]; exact s2.1) (by rw [hyc]; exact s4.1)
                  rw [e1, e2, hyf, hyc] at h1
                  rw [h1, meetA_comm]
                rw [hyf] at c2
                rw [hyc] at c3
                have hcall : ∀ W, Calls Tryz.prog 50 #[.agg #[.int .i64 qb, .int .i64 qm, .int .i64 qf, .int .i64 qc, .slice pq pn pcq], .agg #[.int .i64 yb, .int .i64 ym, .int .i64 yf, .int .i64 yc, .slice pp pl pcl]] W fun e w' => e = .returned (.bool (meetR qf qc yf yc)) ∧ Below W.heap.size W w' :=
                  fun W => meetRef_any qb qm qf qc yb ym yf yc pq pp pn pcq pl pcl W s1 s2 s3 s4
                rw [hme] at hcall
                have gk := lt_of_cell m0
                have gg := lt_of_cell c0
                have hBd : Below wr.heap.size wr wr.drew := (Below.refl _ _).drew
                clear yo qo s1 s2 s3 s4 hme hRl hyv yf0 yc0 hyf hyc
                cases hmt : meetA y (askI L h)
                · rw [hmt] at hcall
                  have HMT := hid hmt
                  clear hmt
                  go_wp2_with fail
                  go_region_held3 (fun w' : World => w'.cell? ⟨w.heap.size + 1 + 1, h, none⟩ = some (.int .i64 0) ∧ w'.cell? ⟨kb, 0, none⟩ = some (.int .i64 qb) ∧ w'.cell? ⟨kb, 1, none⟩ = some (.int .i64 qm) ∧ w'.cell? ⟨kb, 2, none⟩ = some (.int .i64 qf) ∧ w'.cell? ⟨kb, 3, none⟩ = some (.int .i64 qc) ∧ w'.cell? ⟨kb, 4, none⟩ = some (.slice pq pn pcq) ∧ w'.cell? ⟨g, j * 5, none⟩ = some (.int .i64 yb) ∧ w'.cell? ⟨g, j * 5 + 1, none⟩ = some (.int .i64 ym) ∧ w'.cell? ⟨g, j * 5 + 2, none⟩ = some (.int .i64 yf) ∧ w'.cell? ⟨g, j * 5 + 3, none⟩ = some (.int .i64 yc) ∧ w'.cell? ⟨g, j * 5 + 4, none⟩ = some (.slice pp pl pcl)) (exact ⟨ah, m0, m1, m2, m3, m4, c0, c1, c2, c3, c4⟩) (first | (go_at_call 50; replace ah := cell_grown hBd ah; replace m0 := cell_grown hBd m0; replace m1 := cell_grown hBd m1; replace m2 := cell_grown hBd m2; replace m3 := cell_grown hBd m3; replace m4 := cell_grown hBd m4; replace c0 := cell_grown hBd c0; replace c1 := cell_grown hBd c1; replace c2 := cell_grown hBd c2; replace c3 := cell_grown hBd c3; replace c4 := cell_grown hBd c4; refine (hcall _).mono ?_; rintro e w4 ⟨rfl, hb4⟩; have hb5 := hBd.trans (hb4.mono hBd.size); replace ah := cell_grown hb4 ah; replace m0 := cell_grown hb4 m0; replace m1 := cell_grown hb4 m1; replace m2 := cell_grown hb4 m2; replace m3 := cell_grown hb4 m3; replace m4 := cell_grown hb4 m4; replace c0 := cell_grown hb4 c0; replace c1 := cell_grown hb4 c1; replace c2 := cell_grown hb4 c2; replace c3 := cell_grown hb4 c3; replace c4 := cell_grown hb4 c4))
                  go_wp2
                  go_roundw
                  case rel => exact ⟨j + 1, by omega, by go_num, hid (by rw [HTS.out, verdict_past HVJ.out (by rw [HY.out]; exact HMT.out)]; have := HJ.out.grown rfl hb5; rwa [HVJ.out] at this)⟩
                  case measure => simp [intOf]; omega
                · rw [hmt] at hcall
                  have HMT := hid hmt
                  clear hmt
                  go_wp2_with fail
                  go_region_held3 (fun w' : World => w'.cell? ⟨w.heap.size + 1 + 1, h, none⟩ = some (.int .i64 0) ∧ w'.cell? ⟨kb, 0, none⟩ = some (.int .i64 qb) ∧ w'.cell? ⟨kb, 1, none⟩ = some (.int .i64 qm) ∧ w'.cell? ⟨kb, 2, none⟩ = some (.int .i64 qf) ∧ w'.cell? ⟨kb, 3, none⟩ = some (.int .i64 qc) ∧ w'.cell? ⟨kb, 4, none⟩ = some (.slice pq pn pcq) ∧ w'.cell? ⟨g, j * 5, none⟩ = some (.int .i64 yb) ∧ w'.cell? ⟨g, j * 5 + 1, none⟩ = some (.int .i64 ym) ∧ w'.cell? ⟨g, j * 5 + 2, none⟩ = some (.int .i64 yf) ∧ w'.cell? ⟨g, j * 5 + 3, none⟩ = some (.int .i64 yc) ∧ w'.cell? ⟨g, j * 5 + 4, none⟩ = some (.slice pp pl pcl)) (exact ⟨ah, m0, m1, m2, m3, m4, c0, c1, c2, c3, c4⟩) (first | (go_at_call 50; replace ah := cell_grown hBd ah; replace m0 := cell_grown hBd m0; replace m1 := cell_grown hBd m1; replace m2 := cell_grown hBd m2; replace m3 := cell_grown hBd m3; replace m4 := cell_grown hBd m4; replace c0 := cell_grown hBd c0; replace c1 := cell_grown hBd c1; replace c2 := cell_grown hBd c2; replace c3 := cell_grown hBd c3; replace c4 := cell_grown hBd c4; refine (hcall _).mono ?_; rintro e w4 ⟨rfl, hb4⟩; have hb5 := hBd.trans (hb4.mono hBd.size); replace ah := cell_grown hb4 ah; replace m0 := cell_grown hb4 m0; replace m1 := cell_grown hb4 m1; replace m2 := cell_grown hb4 m2; replace m3 := cell_grown hb4 m3; replace m4 := cell_grown hb4 m4; replace c0 := cell_grown hb4 c0; replace c1 := cell_grown hb4 c1; replace c2 := cell_grown hb4 c2; replace c3 := cell_grown hb4 c3; replace c4 := cell_grown hb4 c4))
                  have HJ5 := hid (HJ.out.grown rfl hb5)
                  have bf := HJ5.out.row.frozen h
                  have bl := HJ5.out.row.lt
                  rw [HZ.out] at bf bl
                  go_wp2
                  go_roundw
                  case rel => exact ⟨j + 1, by omega, by go_num, hid (by rw [HTS.out, verdict_hit HVJ.out (by rw [HY.out]; exact HMT.out)]; have := HJ5.out.set 6; rwa [HZ.out] at this)⟩
                  case measure => simp [intOf]; omega
              · have gv : (vj == 0) = false := by simpa using hv0
                have HNZ := hid hv0
                clear hv0 hlv
                go_wp2_with fail
                go_quiet (fail)
                go_wp2
                go_roundw
                case rel => exact ⟨j + 1, by omega, by go_num, hid (by rw [HTS.out, verdict_stays (by rw [HVJ.out]; exact HNZ.out)]; exact HJ.out.grown rfl (below_drewN (Below.refl _ _) _))⟩
                case measure => simp [intOf]; omega
            · have hjn : j = nv := by omega
              have hv : verdictA al (stQ al L t).2 (askI L h) = vj := by
                rw [← HVJ.out, List.take_of_length_le (by rw [HNV.out]; omega)]
              have HVV := hid hv
              have HST : Hid (stQ al L (t + 1) = stepA al (stQ al L t) (askI L h)) := hid (by rw [stQ_step (by rw [HL.out]; omega), HH.out])
              have HRW : Hid ((stQ al L (t + 1)).1 = fun i => if i = h then vj else (stQ al L t).1 i) := hid (by
                rw [HST.out, step_fst (by show (stQ al L t).1 h = 0; rw [← HH.out]; exact stQ_rest (by rw [HL.out]; omega)), hv]; rfl)
              have HSN : Hid ((stQ al L (t + 1)).2 = if vj = 0 then (stQ al L t).2 ++ [askI L h] else (stQ al L t).2) := hid (by rw [HST.out, step_snd, hv])
              replace HJ := hid (show TryAt W0 L al rn t h kb [.int .i64 qb, .int .i64 qm, .int .i64 qf, .int .i64 qc, .slice pq pn pcq] (.slice aa nv cap) vj wr by have := HJ.out; rwa [HVJ.out] at this)
              clear hv HVA hjn HVJ
              by_cases hv0 : vj = 0
              case neg =>
                have gv : (vj == 0) = false := by simpa using hv0
                have HJ2 : Hid (DecAt W0 L al rn (t + 1) (.slice aa nv cap) wr) := hid ⟨HJ.out.bel, by rw [HRW.out]; exact HJ.out.row, HJ.out.don, by rw [HSN.out, if_neg hv0]; exact HJ.out.accs⟩
                clear hv0 HJ
                go_wp2
                go_roundw
                case rel => exact ⟨t + 1, by omega, by go_num, HJ2⟩
                case measure => simp [intOf]; omega
              subst hv0
              obtain ⟨xs, hx, hacc⟩ := HJ.out.accs
              rw [HNV.out] at hx
              have m0 := (HJ.out.new 0 (by decide)).trans rfl
              have m1 := (HJ.out.new 1 (by decide)).trans rfl
              have m2 := (HJ.out.new 2 (by decide)).trans rfl
              have m3 := (HJ.out.new 3 (by decide)).trans rfl
              have m4 := (HJ.out.new 4 (by decide)).trans rfl
              have gk := lt_of_cell m0
              have hsz := HJ.out.bel.size
              have HX := hid hx
              have HACC := hid hacc
              clear hacc
              go_wp2_with (at_builtin; refine wpList_append_own _ rfl _ _ 57 rfl (W0.heap.size + 2) 99 i9 (.agg #[.int .i64 0, .int .i64 0, .int .i64 0, .int .i64 0, .slice none 0 0]) 5 56 Tryz.underlying57 hi9 hz0 hz1 hz2 rfl (by decide) _ _ _ rfl (hx.alloc _) ⟨wr.heap.size, 0, none⟩ 1 1 [.int .i64 qb, .int .i64 qm, .int .i64 qf, .int .i64 qc, .slice pq pn pcq] rfl rfl (cells_new wr #[.int .i64 qb, .int .i64 qm, .int .i64 qf, .int .i64 qc, .slice pq pn pcq] 99) (fun x hx => by simp at hx; rcases hx with rfl | rfl | rfl | rfl | rfl <;> rfl) (by unfold maxLen; omega) (by omega) (by simp; have := HJ.out.don.lt; omega) ?_; intro v' w6 hown' hgrow6 hnil6; have hbel6 := below_of_grown HJ.out.bel (HX.out.mono (by omega)) hgrow6 hsz; have HG6 := hid hgrow6; have HO6 := hid hown'; clear hgrow6 hnil6 hown')
              have hkeep : ∀ c, c < W0.heap.size + 2 → c < wr.heap.size → w6.heap[c]? = wr.heap[c]? := fun c h1 h2 =>
                (HG6.out.block c (by rw [World.size_alloc]; omega) (fun e => by have := (HX.out.lt c e.symm).1; omega)).trans (Below.heap_alloc _ _ _ h2)
              have HJ2 : Hid (DecAt W0 L al rn (t + 1) v' w6) := hid (by
                refine ⟨hbel6, ?_, ?_, ?_⟩
                · rw [HRW.out]; exact HJ.out.row.of_block (hkeep _ (by omega) HJ.out.row.lt)
                · exact HJ.out.don.of_block (hkeep _ (by omega) HJ.out.don.lt)
                · rw [HSN.out, if_pos rfl]
                  refine ⟨_, ?_, HACC.out.snoc (askI L h) (b := qb) (m := qm) (pp := pq) (pn := pn) (pc := pcq)⟩
                  rw [List.length_append, List.length_singleton, HNV.out]
                  have e1 : (askI L h).f = qf := by show (L.getD h default).f = qf; rw [HQ.out]
                  have e2 : (askI L h).c = qc := by show (L.getD h default).c = qc; rw [HQ.out]
                  rw [e1, e2]
                  exact HO6.out)
              clear HJ hx m0 m1 m2 m3 m4 gk hkeep hbel6
              go_wp2
              go_roundw
              case rel => exact ⟨t + 1, by omega, by go_num, HJ2⟩
              case measure => simp [intOf]; omega
    · have htn : t = rn := by omega
      subst htn
      have hI : IntsAt wr (some ⟨W0.heap.size, 0, none⟩) t (stQ al L t).1 := IntsAt.of_row HD.out.row
      rw [HZ.out] at hI
      have hbb := below_then HB.out HD.out.bel
      clear hlt
      go_wp2
      go_ret
      exact ⟨_, rfl, hI, hbb⟩

end Go.Proofs.YtbampfkmgjfofaaGreatDoor
