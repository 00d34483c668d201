/- Mend, the laws: MendAlone in numbers, and whether two requests meet, asked by the definition. -/
import Derived.Test.YtbampfkmgjfofaaGreatDoorCI
import Derived.Test.YtbampfkmgjfofaaGreatDoorCL
import Derived.Deep.RegionHeld3
import Derived.IntWalk
import Derived.Deep.QuietTactic
import Derived.BigQuiet
namespace Go.Proofs.YtbampfkmgjfofaaGreatDoor
open Go.RowKit

/-- What is known of a state, when some requests are taken. -/
structure RunOk (al : Ask → Int) (A : List Ask) (st : (Nat → Int) × List Ask) : Prop where
  acc : ∀ y ∈ st.2, y ∈ A ∧ st.1 y.i = 0
  ver : ∀ x ∈ A, ∃ V : List Ask, (∀ y ∈ V, y ∈ A ∧ st.1 y.i = 0) ∧ st.1 x.i = verdictA al V x
  rest : ∀ i, i ∉ A.map (·.i) → st.1 i = 0

theorem RunOk.step {al : Ask → Int} {A : List Ask} {st : (Nat → Int) × List Ask} (h : RunOk al A st) {x : Ask} (hx : x.i ∉ A.map (·.i)) : RunOk al (A ++ [x]) (stepA al st x) := by
  unfold stepA
  split
  · rename_i hv
    refine ⟨fun y hy => ?_, fun y hy => ?_, fun i hi => h.rest i fun hm => hi (by rw [List.map_append]; exact List.mem_append_left _ hm)⟩
    · rcases List.mem_append.1 hy with hy | hy
      · exact ⟨List.mem_append_left _ (h.acc y hy).1, (h.acc y hy).2⟩
      · rw [List.mem_singleton] at hy
        subst hy
        exact ⟨List.mem_append_right _ (List.mem_singleton.2 rfl), h.rest _ hx⟩
    · rcases List.mem_append.1 hy with hy | hy
      · obtain ⟨V, h1, h2⟩ := h.ver y hy
        exact ⟨V, fun z hz => ⟨List.mem_append_left _ (h1 z hz).1, (h1 z hz).2⟩, h2⟩
      · rw [List.mem_singleton] at hy
        subst hy
        exact ⟨st.2, fun z hz => ⟨List.mem_append_left _ (h.acc z hz).1, (h.acc z hz).2⟩, by rw [hv]; exact h.rest _ hx⟩
  · have hne : ∀ y ∈ A, y.i ≠ x.i := fun y hy e => hx (e ▸ List.mem_map.2 ⟨y, hy, rfl⟩)
    refine ⟨fun y hy => ⟨List.mem_append_left _ (h.acc y hy).1, ?_⟩, fun y hy => ?_, fun i hi => ?_⟩
    · show (if y.i = x.i then _ else st.1 y.i) = 0
      rw [if_neg (hne y (h.acc y hy).1)]
      exact (h.acc y hy).2
    · rcases List.mem_append.1 hy with hy | hy
      · obtain ⟨V, h1, h2⟩ := h.ver y hy
        refine ⟨V, fun z hz => ⟨List.mem_append_left _ (h1 z hz).1, ?_⟩, ?_⟩
        · show (if z.i = x.i then _ else st.1 z.i) = 0
          rw [if_neg (hne z (h1 z hz).1)]
          exact (h1 z hz).2
        · show (if y.i = x.i then _ else st.1 y.i) = _
          rw [if_neg (hne y hy)]
          exact h2
      · rw [List.mem_singleton] at hy
        subst hy
        refine ⟨st.2, fun z hz => ⟨List.mem_append_left _ (h.acc z hz).1, ?_⟩, ?_⟩
        · show (if z.i = y.i then _ else st.1 z.i) = 0
          rw [if_neg (hne z (h.acc z hz).1)]
          exact (h.acc z hz).2
        · show (if y.i = y.i then _ else st.1 y.i) = _
          rw [if_pos rfl]
    · show (if i = x.i then _ else st.1 i) = 0
      rw [List.map_append, List.mem_append, not_or] at hi
      rw [if_neg (fun e => hi.2 (by rw [e]; exact List.mem_singleton.2 rfl))]
      exact h.rest i hi.1

theorem RunOk.fold {al : Ask → Int} : ∀ (B A : List Ask) (st : (Nat → Int) × List Ask), RunOk al A st → ((A ++ B).map (·.i)).Nodup → RunOk al (A ++ B) (B.foldl (stepA al) st)
  | [], A, st, h, _ => by rw [List.append_nil]; exact h
  | x :: B, A, st, h, hn => by
    have e : A ++ x :: B = (A ++ [x]) ++ B := by rw [List.append_assoc]; rfl
    have hx : x.i ∉ A.map (·.i) := by
      rw [List.map_append, List.nodup_append] at hn
      intro hm
      exact hn.2.2 _ hm x.i (by simp) rfl
    rw [e] at hn ⊢
    exact RunOk.fold B (A ++ [x]) _ (h.step hx) hn

theorem runA_ok {al : Ask → Int} {T : List Ask} (hn : (T.map (·.i)).Nodup) : RunOk al T (runA al T) := by
  have h0 : RunOk al [] ((fun _ => 0, []) : (Nat → Int) × List Ask) := ⟨fun y hy => (List.not_mem_nil hy).elim, fun x hx => (List.not_mem_nil hx).elim, fun _ _ => rfl⟩
  have := RunOk.fold T [] _ h0 (by simpa using hn)
  simpa [runA] using this

theorem aloneM_six {E : List Ent} {S : List (Int × Int × Int)} {R : List (Tx × Int)} {out win : Int} {L : List Req} {x : Ask} : aloneM E S R out win L x ≠ 6 := by
  unfold aloneM
  simp only
  generalize zM E S R out win (L.getD x.i default).put x = z
  repeat' split
  all_goals decide

/-- What is answered to a request, and what is answered to it alone. -/
structure AloneIs (R : List (Tx × Int)) (out win : Int) (L : List Req) (D : Nat → Int) (k : Nat) (v : Int) : Prop where
  other : D k ≠ 6 → v = D k
  six : D k = 6 → v = 0 ∧ OwnOk R out win (L.getD k default) ∧ ∃ m, m < L.length ∧ m ≠ k ∧ D m = 0 ∧ OwnOk R out win (L.getD m default) ∧ meetR (L.getD m default).f (L.getD m default).c (L.getD k default).f (L.getD k default).c = true

theorem alone_is {w w2 : World} {E : List Ent} {S : List (Int × Int × Int)} {R : List (Tx × Int)} {out win : Int} {L : List Req} {T T2 : List Ask} {k : Nat} (hT : TakenOk w L T) (hk : k < L.length) (h2 : TakenOk w2 [L.getD k default] T2) :
    AloneIs R out win L (runA (aloneM E S R out win L) T).1 k ((runA (aloneM E S R out win [L.getD k default]) T2).1 0) := by
  have hnd : (T.map (·.i)).Nodup := hT.2.2.1.nodup_iff.2 List.nodup_range
  have hr := runA_ok (al := aloneM E S R out win L) hnd
  have hm : ∀ j, j < L.length → ∃ x ∈ T, x.i = j := fun j hj => List.mem_map.1 (hT.2.2.1.mem_iff.2 (List.mem_range.2 hj))
  obtain ⟨x, hx, hxi⟩ := hm k hk
  obtain ⟨V, hV, hD⟩ := hr.ver x hx
  rw [hxi] at hD
  have hq := (hT.2.1 x hx).2
  rw [hxi] at hq
  -- alone
  obtain ⟨y, rfl⟩ : ∃ y, T2 = [y] := List.length_eq_one_iff.1 h2.1
  have hy := h2.2.1 y (List.mem_singleton.2 rfl)
  have hyi : y.i = 0 := by have := hy.1; simpa using this
  have hyq := hy.2
  rw [hyi] at hyq
  have hv : (runA (aloneM E S R out win [L.getD k default]) [y]).1 0 = aloneM E S R out win [L.getD k default] y := by
    show (stepA (aloneM E S R out win [L.getD k default]) (fun _ => 0, []) y).1 0 = _
    unfold stepA verdictA
    by_cases h0 : aloneM E S R out win [L.getD k default] y = 0
    · rw [if_pos h0]; simp only [List.any_nil]; rw [h0]; rfl
    · rw [if_neg h0, if_neg h0]; simp [hyi]
  have hal : aloneM E S R out win [L.getD k default] y = aloneM E S R out win L x := by
    obtain ⟨b1, b2, b3, b4, -⟩ := hq
    obtain ⟨d1, d2, d3, d4, -⟩ := hyq
    simp only [List.getD_cons_zero] at d1 d2 d3 d4
    unfold aloneM
    rw [hyi, hxi]
    simp only [List.getD_cons_zero]
    have hz : zM E S R out win (L.getD k default).put y = zM E S R out win (L.getD k default).put x := by
      have e1 : y.b = x.b := by rw [d1, b1]
      have e2 : y.m = x.m := by rw [d2, b2]
      have e3 : y.f = x.f := by rw [d3, b3]
      have e4 : y.c = x.c := by rw [d4, b4]
      funext j
      rcases j with _ | _ | _ | _ | j <;> simp only [zM, missesM, malformedM, lateM, e1, e2, e3, e4]
    rw [hz]
  rw [hv, hal]
  clear hv hal
  have own : ∀ z ∈ T, (runA (aloneM E S R out win L) T).1 z.i = 0 → OwnOk R out win (L.getD z.i default) := fun z hz h0 => by
    have hr2 := (hT.2.1 z hz).2
    exact alone_own (fold_zero T _ h0 z hz rfl) hr2.1 hr2.2.1 hr2.2.2.1 hr2.2.2.2.1
  constructor
  · intro h6
    rw [hD] at h6 ⊢
    unfold verdictA at h6 ⊢
    split
    · rename_i h0
      rw [if_pos h0] at h6
      split
      · rename_i ha
        rw [if_pos ha] at h6
        exact absurd rfl h6
      · exact h0
    · rfl
  · intro h6
    rw [hD] at h6
    unfold verdictA at h6
    split at h6
    · rename_i h0
      split at h6
      · rename_i ha
        obtain ⟨z, hz, hmz⟩ := List.any_eq_true.1 ha
        obtain ⟨hzT, hz0⟩ := hV z hz
        have ho := own z hzT hz0
        have hox : OwnOk R out win (L.getD k default) := alone_own h0 hq.1 hq.2.1 hq.2.2.1 hq.2.2.2.1
        have hzr := (hT.2.1 z hzT).2
        refine ⟨h0, hox, z.i, (hT.2.1 z hzT).1, ?_, hz0, ho, ?_⟩
        · intro e
          rw [e] at hz0
          rw [hD] at hz0
          unfold verdictA at hz0
          rw [if_pos h0, if_pos ha] at hz0
          exact absurd hz0 (by decide)
        · have hc1 : 0 ≤ z.c := by rw [hzr.2.2.2.1]; exact ho.c0
          have hc2 : 0 ≤ x.c := by rw [hq.2.2.2.1]; exact hox.c0
          rw [← hzr.2.2.1, ← hzr.2.2.2.1, ← hq.2.2.1, ← hq.2.2.2.1, meetR_meetA hc1 hc2]
          exact hmz
      · exact absurd h6 (by decide)
    · exact absurd h6 aloneM_six

set_option maxRecDepth 100000 in
set_option maxHeartbeats 4000000 in
theorem meetRef_any (b m f c b2 m2 g d : Int) (pa pa2 : Option Addr) (pn pc pn2 pc2 : Nat) (w : World) (h1 : 0 ≤ f ∧ f ≤ 100) (h2 : 0 ≤ c ∧ c ≤ 8) (h3 : 0 ≤ g ∧ g ≤ 100) (h4 : 0 ≤ d ∧ d ≤ 8) :
    Calls Tryz.prog 50 #[.agg #[.int .i64 b, .int .i64 m, .int .i64 f, .int .i64 c, .slice pa pn pc], .agg #[.int .i64 b2, .int .i64 m2, .int .i64 g, .int .i64 d, .slice pa2 pn2 pc2]] w fun e w' => e = .returned (.bool (meetR f c g d)) ∧ Below w.heap.size w w' := by
  have w1 : IntKind.i64.wrap (f + c) = f + c := IntWalk.i64_in _ (by omega)
  have w2 : IntKind.i64.wrap (g + d) = g + d := IntWalk.i64_in _ (by omega)
  obtain ⟨W0, hW0⟩ : ∃ W, W = (w.alloc (.cells #[.int .i64 b, .int .i64 m, .int .i64 f, .int .i64 c, .slice pa pn pc] 99)).alloc (.cells #[.int .i64 b2, .int .i64 m2, .int .i64 g, .int .i64 d, .slice pa2 pn2 pc2] 99) := ⟨_, rfl⟩
  have hB0 : Below w.heap.size w W0 := by rw [hW0]; exact ((Below.refl _ w).alloc (Nat.le_refl _) _).alloc (by simp) _
  have x2 : W0.cell? ⟨w.heap.size, 2, none⟩ = some (.int .i64 f) := by rw [hW0]; simp [go_sem]
  have x3 : W0.cell? ⟨w.heap.size, 3, none⟩ = some (.int .i64 c) := by rw [hW0]; simp [go_sem]
  have y2 : W0.cell? ⟨w.heap.size + 1, 2, none⟩ = some (.int .i64 g) := by rw [hW0]; simp [go_sem]
  have y3 : W0.cell? ⟨w.heap.size + 1, 3, none⟩ = some (.int .i64 d) := by rw [hW0]; simp [go_sem]
  have l1 := lt_of_cell x2
  have l2 := lt_of_cell y2
  have HB := hid hB0
  clear hB0 h1 h2 h3 h4
  go_enter Tryz.func50, Tryz.ntmps50
  go_wp2_with fail
  rw [← hW0]
  clear hW0
  go_quiet (fail)
  by_cases hc : c = 0
  · subst hc
    by_cases hd : d = 0
    · subst hd
      go_wp2
      go_ret
      exact ⟨by rw [meetR, if_pos ⟨rfl, rfl⟩]; rfl, below_drewN HB.out _⟩
    · have gd : (d == 0) = false := by simpa using hd
      by_cases hp : g < f
      · go_wp2
        go_ret
        exact ⟨by simp [meetR, hd, hp], below_drewN HB.out _⟩
      · go_wp2
        go_ret
        exact ⟨by simp [meetR, hd]; (intros; omega), below_drewN HB.out _⟩
  · have gc : (c == 0) = false := by simpa using hc
    by_cases hd : d = 0
    · subst hd
      by_cases hp : f < g
      · go_wp2
        go_ret
        exact ⟨by simp [meetR, hc, hp], below_drewN HB.out _⟩
      · go_wp2
        go_ret
        exact ⟨by simp [meetR, hc]; (intros; omega), below_drewN HB.out _⟩
    · have gd : (d == 0) = false := by simpa using hd
      by_cases hp : f < g + d
      · go_wp2
        go_ret
        exact ⟨by simp [meetR, hc, hd, hp], below_drewN HB.out _⟩
      · go_wp2
        go_ret
        exact ⟨by simp [meetR, hc, hd]; (intros; omega), below_drewN HB.out _⟩

end Go.Proofs.YtbampfkmgjfofaaGreatDoor
