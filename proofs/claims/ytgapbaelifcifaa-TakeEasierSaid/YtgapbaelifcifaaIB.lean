/- An office that is easier: what was right stays right. The law TakeEasier: its walk. -/
import Derived.Test.YtgapbaelifcifaaHA
import Derived.Test.YtgapbaelifcifaaGC
import Derived.Sort.AtCall
import Derived.Deep.DeepCutAuto
import Derived.Deep.CutBlock
namespace Go.Proofs.Ytgapbaelifcifaa
open Go.RowKit

/-- No reporter is slower or rests longer, none is gone. -/
def Eased (C C' : List (Int × Int × Int)) : Prop :=
  C.length ≤ C'.length ∧ ∀ r, r < C.length → 0 ≤ (C'.getD r (0, 0, 0)).2.1 ∧ (C'.getD r (0, 0, 0)).2.1 ≤ (C.getD r (0, 0, 0)).2.1 ∧ (C'.getD r (0, 0, 0)).2.2 ≤ (C.getD r (0, 0, 0)).2.2

theorem done_le {T : List (Int × Int)} {k : Nat} {s s' d d' : Int} (hT : (T.getD k (0, 0)).1 ≤ (T.getD k (0, 0)).2) (hs : s' ≤ s) (hd : d' ≤ d) : doneM T k s' d' ≤ doneM T k s d := by
  unfold doneM
  have := Int.mul_le_mul_of_nonneg_left hs (show 0 ≤ (T.getD k (0, 0)).2 - (T.getD k (0, 0)).1 by omega)
  omega

theorem look_ease {delay delay' : Int} {C C' : List (Int × Int × Int)} {T : List (Int × Int)} {R : List Nat} {f t : Int} (hA : Asc f t T) (hE : Eased C C') (hd : delay' ≤ delay) {k r : Nat} (hr : r < C.length) (hk : k ≤ T.length) :
    ∀ i, i ≤ k → lookN delay C T R k r i = true → lookN delay' C' T R k r i = true := by
  intro i
  induction i with
  | zero => intro _ _; rfl
  | succ i ih =>
    intro hi h
    rw [lookN] at h ⊢
    by_cases e : R.getD i 0 = r
    · rw [if_pos e, decide_eq_true_eq] at h ⊢
      have hb := hA.at (i := i) (by omega)
      obtain ⟨h1, h2, h3⟩ := hE.2 r hr
      have h4 := done_le (T := T) (k := i) (by omega) h2 hd
      unfold freeW at h ⊢
      omega
    · rw [if_neg e] at h ⊢
      exact ih (by omega) h

theorem rota_ease {due due' delay delay' : Int} {C C' : List (Int × Int × Int)} {T : List (Int × Int)} {R : List Nat} {f t : Int} (hA : Asc f t T) (hE : Eased C C') (hd : delay' ≤ delay) (hu : due ≤ due') {k : Nat} (hk : k < T.length) (hr : R.getD k 0 < C.length)
    (h : rotaOk due delay C T R k = true) : rotaOk due' delay' C' T R k = true := by
  unfold rotaOk at h ⊢
  rw [Bool.and_eq_true, decide_eq_true_eq] at h ⊢
  have hb := hA.at hk
  obtain ⟨h1, h2, h3⟩ := hE.2 _ hr
  have h4 := done_le (T := T) (k := k) (by omega) h2 hd
  exact ⟨by omega, look_ease hA hE hd hr (by omega) k (Nat.le_refl _) h.2⟩

theorem path_ease {due due' delay delay' : Int} {C C' : List (Int × Int × Int)} {T : List (Int × Int)} {R : List Nat} {f t : Int} (hA : Asc f t T) (hE : Eased C C') (hd : delay' ≤ delay) (hu : due ≤ due') (hl : R.length ≤ T.length) (h5 : C'.length ≤ 5)
    (h : (howOf due delay C T).path R 0 [0, 0, 0, 0, 0]) : (howOf due' delay' C' T).path R 0 [0, 0, 0, 0, 0] := by
  have hc := hE.1
  rw [path_iff hA hl (by omega)] at h
  rw [path_iff hA hl h5]
  obtain ⟨h1, h2⟩ := h
  exact ⟨fun r hr => by have := h1 r hr; omega, fun k hk => rota_ease hA hE hd hu (by omega) (mem_getD h1 k hk) (h2 k hk)⟩

/-- The program's rota is right at the easier office. -/
theorem ease_proves {len long short due due' delay delay' : Int} {L : List (Int × Int)} {C C' : List (Int × Int × Int)} {R : List Nat} (hf : faultM len long short due delay L C = 0) (ho : offOk due' delay' C' = true) (hE : Eased C C') (hd : delay' ≤ delay) (hu : due ≤ due')
    (h : (howOf due delay C (takesOf len long short L)).best R 0 [0, 0, 0, 0, 0]) : proveM len long short due' delay' L C' (R.map fun r : Nat => (r : Int)) = true := by
  obtain ⟨h1, h2⟩ := fault_ok hf
  obtain ⟨h3, h4⟩ := sitErr_zero h1
  obtain ⟨-, hA, -, -⟩ := takes_all h3
  obtain ⟨o1, -⟩ := offOk_parts ho
  have hf' : faultM len long short due' delay' L C' = 0 := by
    unfold faultM
    rw [if_pos h1, if_pos ho]
  have hl : R.length = (takesOf len long short L).length := by
    have := h.2.1
    rw [Nat.zero_add] at this
    exact this
  have hp := path_ease hA hE hd hu (by omega) o1.2 h.1
  rw [path_iff hA (by omega) o1.2] at hp
  rw [prove_ok hf', Bool.and_eq_true, List.all_eq_true]
  have hmap : (R.map fun r : Nat => (r : Int)).map Int.toNat = R := by
    rw [List.map_map]
    conv => rhs; rw [← List.map_id R]
    exact List.map_congr_left fun x _ => by simp
  refine ⟨?_, fun k hk => ?_⟩
  · unfold staffsM
    rw [Bool.and_eq_true, decide_eq_true_eq, List.all_eq_true]
    refine ⟨by rw [List.length_map]; exact hl, fun x hx => ?_⟩
    obtain ⟨r, hrm, rfl⟩ := List.mem_map.1 hx
    have := hp.1 r hrm
    simp only [inB, decide_eq_true_eq]
    omega
  · rw [hmap]
    exact hp.2 k (by simpa using hk)

/-- The take that fails there is not an earlier one. -/
theorem ease_fails {len long short due due' delay delay' : Int} {L : List (Int × Int)} {C C' : List (Int × Int × Int)} (hf : faultM len long short due delay L C = 0) (ho : offOk due' delay' C' = true) (hE : Eased C C') (hd : delay' ≤ delay) (hu : due ≤ due') {q q' : Nat}
    (hq : q < (takesOf len long short L).length) (hw : ∃ rs, rs.length = q ∧ (howOf due delay C (takesOf len long short L)).path rs 0 [0, 0, 0, 0, 0]) (hd' : (howOf due' delay' C' (takesOf len long short L)).dead q' 0 [0, 0, 0, 0, 0]) : q ≤ q' := by
  obtain ⟨h1, h2⟩ := fault_ok hf
  obtain ⟨h3, h4⟩ := sitErr_zero h1
  obtain ⟨-, hA, -, -⟩ := takes_all h3
  obtain ⟨o1, -⟩ := offOk_parts ho
  obtain ⟨rs, hl, hp⟩ := hw
  have := (hd' rs (path_ease hA hE hd hu (by omega) o1.2 hp)).2
  omega

end Go.Proofs.Ytgapbaelifcifaa

namespace Go.Proofs.Ytgapbaelifcifaa
open Go.RowKit

theorem Try.info91 : (Try.prog.info? 91).map (fun i => (i.zero, i.size, i.bytes)) = some (some (.agg #[.int .i64 0, .int .i64 0, .int .i64 0]), 3, 24) := by kernel_rfl

theorem flat3_length : ∀ X : List (Int × Int × Int), (flat3 X).length = X.length * 3 := by
  intro X
  induction X with
  | nil => rfl
  | cons x X ih => simp only [flat3, List.length_cons, ih]; omega

theorem flat3_one : ∀ (X : List (Int × Int × Int)), ∀ u ∈ flat3 X, u.oneCell' = true := by
  intro X
  induction X with
  | nil => intro u h; simp [flat3] at h
  | cons x X ih =>
    intro u h
    simp only [flat3, List.mem_cons] at h
    rcases h with rfl | rfl | rfl | h
    · rfl
    · rfl
    · rfl
    · exact ih u h

theorem flat3_set : ∀ (C : List (Int × Int × Int)) (i : Nat) (u : Int), i < C.length →
    (flat3 C).set (i * 3 + 1) (.int .i64 u) = flat3 (C.set i ((C.getD i (0, 0, 0)).1, u, (C.getD i (0, 0, 0)).2.2)) ∧ (flat3 C).set (i * 3 + 2) (.int .i64 u) = flat3 (C.set i ((C.getD i (0, 0, 0)).1, (C.getD i (0, 0, 0)).2.1, u)) := by
  intro C
  induction C with
  | nil => intro i u h; simp at h
  | cons x X ih =>
    intro i u h
    cases i with
    | zero => constructor <;> simp [flat3]
    | succ i =>
      obtain ⟨h1, h2⟩ := ih i u (by simpa using h)
      constructor
      · rw [show (i + 1) * 3 + 1 = (i * 3 + 1) + 3 by omega]
        simp only [flat3, List.set_cons_succ, List.getD_cons_succ, h1]
      · rw [show (i + 1) * 3 + 2 = (i * 3 + 2) + 3 by omega]
        simp only [flat3, List.set_cons_succ, List.getD_cons_succ, h2]

theorem eased_set {C : List (Int × Int × Int)} {ix : Nat} {x : Int × Int × Int} (hb : ∀ i, i < C.length → 0 ≤ (C.getD i (0, 0, 0)).2.1) (hi : ix < C.length) (h1 : 0 ≤ x.2.1) (h2 : x.2.1 ≤ (C.getD ix (0, 0, 0)).2.1) (h3 : x.2.2 ≤ (C.getD ix (0, 0, 0)).2.2) : Eased C (C.set ix x) := by
  refine ⟨by rw [List.length_set]; exact Nat.le_refl _, fun r hr => ?_⟩
  have hg : (C.set ix x).getD r (0, 0, 0) = if ix = r then x else C.getD r (0, 0, 0) := by
    simp only [List.getD_eq_getElem?_getD, List.getElem?_set]
    split
    · rename_i e; subst e; simp [hi]
    · rfl
  rw [hg]
  split
  · rename_i e; subst e; exact ⟨h1, h2, h3⟩
  · exact ⟨hb r hr, Int.le_refl _, Int.le_refl _⟩

theorem eased_refl {C : List (Int × Int × Int)} (hb : ∀ i, i < C.length → 0 ≤ (C.getD i (0, 0, 0)).2.1) : Eased C C :=
  ⟨Nat.le_refl _, fun r hr => ⟨hb r hr, Int.le_refl _, Int.le_refl _⟩⟩

theorem eased_append {C : List (Int × Int × Int)} {x : Int × Int × Int} (hb : ∀ i, i < C.length → 0 ≤ (C.getD i (0, 0, 0)).2.1) : Eased C (C ++ [x]) := by
  refine ⟨by simp, fun r hr => ?_⟩
  have hg : (C ++ [x]).getD r (0, 0, 0) = C.getD r (0, 0, 0) := by
    simp only [List.getD_eq_getElem?_getD, List.getElem?_append_left hr]
  rw [hg]
  exact ⟨hb r hr, Int.le_refl _, Int.le_refl _⟩

theorem addr_add0 (g j : Nat) : (⟨g, 0, none⟩ : Addr).add j = ⟨g, 0 + j, none⟩ := by unfold Addr.add; split <;> simp_all

/-- The changed office, as it lies in memory: it is easier. -/
def EasedAt (C : List (Int × Int × Int)) (due delay : Int) (w0 : World) (X : Nat) (wc : World) : Prop :=
  ∃ (due' delay' : Int) (C' : List (Int × Int × Int)) (ra' : Option Addr) (rn' rc' : Nat), wc.cell? ⟨X, 0, none⟩ = some (.slice ra' rn' rc') ∧ wc.cell? ⟨X, 1, none⟩ = some (.int .i64 due') ∧ wc.cell? ⟨X, 2, none⟩ = some (.int .i64 delay') ∧ Crew wc ra' C' ∧ Hid (C'.length = rn') ∧ rn' ≤ 8 ∧ Below X w0 wc ∧ due ≤ due' ∧ delay' ≤ delay ∧ Hid (offOk due' delay' C' = true → Eased C C')

theorem easedAt_same {C : List (Int × Int × Int)} {due delay : Int} {w0 Wz : World} {X g m vc : Nat} (hO : Wz.ownsRow (X + 1) 91 3 (.slice (some ⟨g, 0, none⟩) m vc) m (flat3 C)) (hC : C.length = m) (hm : m ≤ 8) (hB : Below X w0 Wz)
    (hb : ∀ i, i < C.length → 0 ≤ (C.getD i (0, 0, 0)).2.1) (c0 : Wz.cell? ⟨X, 0, none⟩ = some (.slice (some ⟨g, 0, none⟩) m vc)) (c1 : Wz.cell? ⟨X, 1, none⟩ = some (.int .i64 due)) (c2 : Wz.cell? ⟨X, 2, none⟩ = some (.int .i64 delay)) : EasedAt C due delay w0 X Wz := by
  subst hC
  exact ⟨due, delay, C, _, _, _, c0, c1, c2, crew_of_owns hO, hid rfl, hm, hB, Int.le_refl _, Int.le_refl _, hid fun _ => eased_refl hb⟩

theorem easedAt_due {C : List (Int × Int × Int)} {due delay d : Int} {w0 Wz : World} {X g m vc : Nat} (hO : Wz.ownsRow (X + 1) 91 3 (.slice (some ⟨g, 0, none⟩) m vc) m (flat3 C)) (hC : C.length = m) (hm : m ≤ 8) (hB : Below X w0 Wz)
    (hb : ∀ i, i < C.length → 0 ≤ (C.getD i (0, 0, 0)).2.1) (c0 : Wz.cell? ⟨X, 0, none⟩ = some (.slice (some ⟨g, 0, none⟩) m vc)) (c1 : Wz.cell? ⟨X, 1, none⟩ = some (.int .i64 due)) (c2 : Wz.cell? ⟨X, 2, none⟩ = some (.int .i64 delay)) (h : due ≤ d) : EasedAt C due delay w0 X (Wz.setCell ⟨X, 1, none⟩ (.int .i64 d)) := by
  subst hC
  exact ⟨d, delay, C, _, _, _, (World.cell?_setCell_other _ _ _ _ (by simp)).trans c0, World.cell?_setCell_same _ _ _ c1, (World.cell?_setCell_other _ _ _ _ (by simp)).trans c2, crew_of_owns (ownsRow_setCell_below hO (a := ⟨X, 1, none⟩) (by simp) _), hid rfl, hm, hB.setCell (p := ⟨X, 1, none⟩) (Nat.le_refl _) _, h, Int.le_refl _, hid fun _ => eased_refl hb⟩

theorem easedAt_delay {C : List (Int × Int × Int)} {due delay d : Int} {w0 Wz : World} {X g m vc : Nat} (hO : Wz.ownsRow (X + 1) 91 3 (.slice (some ⟨g, 0, none⟩) m vc) m (flat3 C)) (hC : C.length = m) (hm : m ≤ 8) (hB : Below X w0 Wz)
    (hb : ∀ i, i < C.length → 0 ≤ (C.getD i (0, 0, 0)).2.1) (c0 : Wz.cell? ⟨X, 0, none⟩ = some (.slice (some ⟨g, 0, none⟩) m vc)) (c1 : Wz.cell? ⟨X, 1, none⟩ = some (.int .i64 due)) (c2 : Wz.cell? ⟨X, 2, none⟩ = some (.int .i64 delay)) (h : d ≤ delay) : EasedAt C due delay w0 X (Wz.setCell ⟨X, 2, none⟩ (.int .i64 d)) := by
  subst hC
  exact ⟨due, d, C, _, _, _, (World.cell?_setCell_other _ _ _ _ (by simp)).trans c0, (World.cell?_setCell_other _ _ _ _ (by simp)).trans c1, World.cell?_setCell_same _ _ _ c2, crew_of_owns (ownsRow_setCell_below hO (a := ⟨X, 2, none⟩) (by simp) _), hid rfl, hm, hB.setCell (p := ⟨X, 2, none⟩) (Nat.le_refl _) _, Int.le_refl _, h, hid fun _ => eased_refl hb⟩

theorem easedAt_crew {C : List (Int × Int × Int)} {due delay : Int} {w0 Wz : World} {X g m vc i ix : Nat} {u : Value} {x : Int × Int × Int} (hO : Wz.ownsRow (X + 1) 91 3 (.slice (some ⟨g, 0, none⟩) m vc) m (flat3 C)) (hC : C.length = m) (hm : m ≤ 8) (hB : Below X w0 Wz)
    (hb : ∀ i, i < C.length → 0 ≤ (C.getD i (0, 0, 0)).2.1) (c0 : Wz.cell? ⟨X, 0, none⟩ = some (.slice (some ⟨g, 0, none⟩) m vc)) (c1 : Wz.cell? ⟨X, 1, none⟩ = some (.int .i64 due)) (c2 : Wz.cell? ⟨X, 2, none⟩ = some (.int .i64 delay))
    (hix : ix < C.length) (hs : (flat3 C).set i u = flat3 (C.set ix x)) (h1 : 0 ≤ x.2.1) (h2 : x.2.1 ≤ (C.getD ix (0, 0, 0)).2.1) (h3 : x.2.2 ≤ (C.getD ix (0, 0, 0)).2.2) : EasedAt C due delay w0 X (Wz.setCell ⟨g, i, none⟩ u) := by
  subst hC
  have hg : X + 1 ≤ g := (hO.lt g rfl).1
  have hO' := (hO.stored i u).1
  rw [hs] at hO'
  have hne : ∀ j, (⟨g, i, none⟩ : Addr) ≠ ⟨X, j, none⟩ := fun j e => by cases e; omega
  refine ⟨due, delay, C.set ix x, some ⟨g, 0, none⟩, C.length, vc, (World.cell?_setCell_other _ _ _ _ (hne 0)).trans c0, (World.cell?_setCell_other _ _ _ _ (hne 1)).trans c1, (World.cell?_setCell_other _ _ _ _ (hne 2)).trans c2, ?_, hid (List.length_set ..), hm, hB.setCell (p := ⟨g, i, none⟩) (by simp; omega) _, Int.le_refl _, Int.le_refl _, hid fun _ => eased_set hb hix h1 h2 h3⟩
  refine crew_of_owns (base := X + 1) (e := 91) (cap := vc) ?_
  rw [List.length_set]
  exact hO'

theorem easedAt_more {C : List (Int × Int × Int)} {due delay : Int} {w0 Wz w3 : World} {X g m : Nat} {o v' : Value} {tmp : Obj} {x : Int × Int × Int} (hX : Wz.heap[X]? = some (.cells #[o, .int .i64 due, .int .i64 delay] 27 (0, 0))) (hC : C.length = m) (hm : m ≤ 5) (hB : Below X w0 Wz) (hg : X + 1 ≤ g)
    (hb : ∀ i, i < C.length → 0 ≤ (C.getD i (0, 0, 0)).2.1) (hO : w3.ownsRow (X + 1) 91 3 v' (m + 1) (flat3 C ++ flat3 [x])) (hgrow : (Wz.alloc tmp).grownBy w3 (some g)) :
    w3.heap[X]? = some (.cells #[o, .int .i64 due, .int .i64 delay] 27 (0, 0)) ∧ EasedAt C due delay w0 X (w3.setCell ⟨X, 0, none⟩ v') := by
  subst hC
  have hlt : X < Wz.heap.size := (Array.getElem?_eq_some_iff.1 hX).1
  have hX1 : (Wz.alloc tmp).heap[X]? = some (.cells #[o, .int .i64 due, .int .i64 delay] 27 (0, 0)) := (Below.heap_alloc _ _ _ hlt).trans hX
  have hX3 := (hgrow.block X (by simp; omega) (fun e => by simp at e; omega)).trans hX1
  refine ⟨hX3, ?_⟩
  have hB3 : Below X w0 w3 := Below.grown (hB.alloc (by omega) tmp) hgrow (by simp; omega) (fun k e => by cases e; omega)
  rw [← flat3_append] at hO
  have hl : (C ++ [x]).length = C.length + 1 := by simp
  rw [← hl] at hO
  obtain ⟨va, vcc, hv⟩ : ∃ va vcc, v' = .slice va (C ++ [x]).length vcc := owns_shape hO
  subst hv
  have hXs := heap_setCell_same w3 X 0 _ 27 (.slice va (C ++ [x]).length vcc) hX3
  exact ⟨due, delay, C ++ [x], va, _, vcc, (cell_of_row _ X 0 _ _ _ hXs).trans rfl, (cell_of_row _ X 1 _ _ _ hXs).trans rfl, (cell_of_row _ X 2 _ _ _ hXs).trans rfl, crew_of_owns (ownsRow_setCell_below hO (a := ⟨X, 0, none⟩) (by simp) _), hid rfl, by rw [hl]; omega, hB3.setCell (p := ⟨X, 0, none⟩) (Nat.le_refl _) _, Int.le_refl _, Int.le_refl _, hid fun _ => eased_append hb⟩

theorem easedAt_rest {C : List (Int × Int × Int)} {due delay : Int} {w0 Wz : World} {X g m vc ix : Nat} {lo hi rest : Int} (u : Int) (hO : Wz.ownsRow (X + 1) 91 3 (.slice (some ⟨g, 0, none⟩) m vc) m (flat3 C)) (hC : C.length = m) (hm : m ≤ 8) (hB : Below X w0 Wz)
    (hb : ∀ i, i < C.length → 0 ≤ (C.getD i (0, 0, 0)).2.1) (c0 : Wz.cell? ⟨X, 0, none⟩ = some (.slice (some ⟨g, 0, none⟩) m vc)) (c1 : Wz.cell? ⟨X, 1, none⟩ = some (.int .i64 due)) (c2 : Wz.cell? ⟨X, 2, none⟩ = some (.int .i64 delay))
    (hix : ix < C.length) (hx : C.getD ix (0, 0, 0) = (lo, hi, rest)) (h1 : 0 ≤ hi) (h3 : u ≤ rest) : EasedAt C due delay w0 X (Wz.setCell ⟨g, ix * 3 + 2, none⟩ (.int .i64 u)) := by
  have hs := (flat3_set C ix u hix).2
  rw [hx] at hs
  exact easedAt_crew hO hC hm hB hb c0 c1 c2 hix hs h1 (by rw [hx]; exact Int.le_refl _) (by rw [hx]; exact h3)

theorem easedAt_hi {C : List (Int × Int × Int)} {due delay : Int} {w0 Wz : World} {X g m vc ix : Nat} {lo hi rest : Int} (u : Int) (hO : Wz.ownsRow (X + 1) 91 3 (.slice (some ⟨g, 0, none⟩) m vc) m (flat3 C)) (hC : C.length = m) (hm : m ≤ 8) (hB : Below X w0 Wz)
    (hb : ∀ i, i < C.length → 0 ≤ (C.getD i (0, 0, 0)).2.1) (c0 : Wz.cell? ⟨X, 0, none⟩ = some (.slice (some ⟨g, 0, none⟩) m vc)) (c1 : Wz.cell? ⟨X, 1, none⟩ = some (.int .i64 due)) (c2 : Wz.cell? ⟨X, 2, none⟩ = some (.int .i64 delay))
    (hix : ix < C.length) (hx : C.getD ix (0, 0, 0) = (lo, hi, rest)) (h1 : 0 ≤ u) (h3 : u ≤ hi) : EasedAt C due delay w0 X (Wz.setCell ⟨g, ix * 3 + 1, none⟩ (.int .i64 u)) := by
  have hs := (flat3_set C ix u hix).1
  rw [hx] at hs
  exact easedAt_crew hO hC hm hB hb c0 c1 c2 hix hs h1 (by rw [hx]; exact h3) (by rw [hx]; exact Int.le_refl _)

theorem EasedAt.drew {C : List (Int × Int × Int)} {due delay : Int} {w0 wc : World} {X : Nat} (h : EasedAt C due delay w0 X wc) : EasedAt C due delay w0 X wc.drew := by
  obtain ⟨due', delay', C', ra', rn', rc', c0, c1, c2, hCr, hl, h8, hB, h1, h2, h3⟩ := h
  have hb : Below wc.heap.size wc wc.drew := (Below.refl _ _).drew
  exact ⟨due', delay', C', ra', rn', rc', cell_grown hb c0, cell_grown hb c1, cell_grown hb c2, hCr.grown hb, hl, h8, hB.drew, h1, h2, h3⟩

theorem best_not_dead {p : How} {R : List Nat} {rc : Nat} (h : p.best R 0 [0, 0, 0, 0, 0]) (hd : p.dead rc 0 [0, 0, 0, 0, 0]) : False := by
  have := (hd R h.1).1
  have h2 := h.2.1
  omega

theorem fails_form {len long short due delay : Int} {L : List (Int × Int)} {C : List (Int × Int × Int)} {w w' : World} {e : Ending} (h : FailsPost len long short due delay L C w e w') (hf : faultM len long short due delay L C = 0) :
    ∃ (z fe : Int), e = .returned (.tuple #[.int .i64 z, .int .i64 fe]) ∧ Below w.heap.size w w' ∧
      Hid ((z = 0 ∧ fe = 7 ∧ ∃ R, (howOf due delay C (takesOf len long short L)).best R 0 [0, 0, 0, 0, 0]) ∨
       ∃ q : Nat, z = (q : Int) ∧ fe = 0 ∧ q < (takesOf len long short L).length ∧ (∃ rs, rs.length = q ∧ (howOf due delay C (takesOf len long short L)).path rs 0 [0, 0, 0, 0, 0]) ∧ (howOf due delay C (takesOf len long short L)).dead q 0 [0, 0, 0, 0, 0]) := by
  obtain ⟨hb, ⟨h1, _⟩ | ⟨_, _, ⟨rfl, hR⟩ | ⟨q, rfl, hq, hp, hd⟩⟩⟩ := h
  · rw [serve_fault] at h1
    exact absurd hf h1
  · exact ⟨0, 7, rfl, hb, .inl ⟨rfl, rfl, hR⟩⟩
  · exact ⟨q, 0, rfl, hb, .inr ⟨q, rfl, rfl, hq, hp, hd⟩⟩

theorem crew_copied {w1 Wx w3 : World} {v' o : Value} {m : Nat} {C : List (Int × Int × Int)} {due delay : Int} (hBx : Below w1.heap.size w1 Wx) (zx : Wx.heap.size = w1.heap.size + 2)
    (hX0 : Wx.heap[w1.heap.size]? = some (.cells #[o, .int .i64 due, .int .i64 delay] 27 (0, 0))) (hm : 1 ≤ m) (hown' : w3.ownsRow (w1.heap.size + 1) 91 3 v' (0 + m) ([] ++ flat3 C)) (hgrow : Wx.grownBy w3 (some (w1.heap.size + 1))) :
    ∃ g vc, v' = .slice (some ⟨g, 0, none⟩) m vc ∧ w1.heap.size + 1 ≤ g ∧ w3.ownsRow (w1.heap.size + 1) 91 3 (.slice (some ⟨g, 0, none⟩) m vc) m (flat3 C) ∧ Below w1.heap.size w1 w3 ∧ w3.heap[w1.heap.size]? = some (.cells #[o, .int .i64 due, .int .i64 delay] 27 (0, 0)) := by
  have hown3 : w3.ownsRow (w1.heap.size + 1) 91 3 v' m (flat3 C) := by simpa using hown'
  have hB3 : Below w1.heap.size w1 w3 := Below.grown hBx hgrow (by omega) (fun k e => by cases e; omega)
  have hX3 := (hgrow.block w1.heap.size (by omega) (fun e => by simp at e)).trans hX0
  have hsh : ∃ g cap, v' = .slice (some ⟨g, 0, none⟩) m cap ∧ w1.heap.size + 1 ≤ g := by
    rcases hown3.2 with ⟨_, h0⟩ | ⟨g, cap, _, hv, hg, _⟩
    · omega
    · exact ⟨g, cap, hv, hg⟩
  obtain ⟨g, vc, rfl, hgb⟩ := hsh
  exact ⟨g, vc, rfl, hgb, hown3, hB3, hX3⟩

set_option maxRecDepth 100000 in
set_option maxHeartbeats 40000000 in
theorem takeEasier_any (L : List (Int × Int)) (len long short : Int) (n cap : Nat) (a : Option Addr) (C : List (Int × Int × Int)) (due delay : Int) (m cc : Nat) (ca : Option Addr) (which at_ by_ : Int) (mo : Int × Int × Int) (w : World)
    (hL : L.length = n) (hn : n ≤ maxLen) (hS : Spans w a L) (hC : C.length = m) (hm : m ≤ maxLen) (hCr : Crew w ca C) (hwh : 0 ≤ which ∧ which ≤ 255) (hat : 0 ≤ at_ ∧ at_ ≤ 255) (hby : 0 ≤ by_ ∧ by_ ≤ 65535) :
    Calls Try.prog 13 #[.agg #[.int .i64 len, .slice a n cap, .int .i64 long, .int .i64 short], .agg #[.slice ca m cc, .int .i64 due, .int .i64 delay], .int .u8 which, .int .u8 at_, .int .u16 by_, .agg #[.int .i64 mo.1, .int .i64 mo.2.1, .int .i64 mo.2.2]] w fun e w' => e = .returned (.bool true) ∧ Below w.heap.size w w' := by
  have hn' := hn
  have hm' := hm
  unfold maxLen at hn' hm'
  have HL := hid hL
  have HC := hid hC
  clear hL hC
  obtain ⟨mo1, mo2, mo3⟩ := mo
  simp only
  go_enter Try.func13, Try.ntmps13
  go_wp2_with fail
  obtain ⟨W0, hW0⟩ : ∃ W0, W0 = ((w.alloc (.cells #[.int .i64 len, .slice a n cap, .int .i64 long, .int .i64 short] 24)).alloc (.cells #[.slice ca m cc, .int .i64 due, .int .i64 delay] 27)).alloc (.cells #[.int .i64 mo1, .int .i64 mo2, .int .i64 mo3] 91) := ⟨_, rfl⟩
  have hB0 : Below w.heap.size w W0 := by rw [hW0]; exact (((Below.refl _ w).alloc (Nat.le_refl _) _).alloc (by simp) _).alloc (by simp; omega) _
  have z0 : W0.heap.size = w.heap.size + 3 := by rw [hW0]; simp
  have y0 : W0.cell? ⟨w.heap.size, 0, none⟩ = some (.int .i64 len) := by rw [hW0]; simp [go_sem]
  have y1 : W0.cell? ⟨w.heap.size, 1, none⟩ = some (.slice a n cap) := by rw [hW0]; simp [go_sem]
  have y2 : W0.cell? ⟨w.heap.size, 2, none⟩ = some (.int .i64 long) := by rw [hW0]; simp [go_sem]
  have y3 : W0.cell? ⟨w.heap.size, 3, none⟩ = some (.int .i64 short) := by rw [hW0]; simp [go_sem]
  have x0 : W0.cell? ⟨w.heap.size + 1, 0, none⟩ = some (.slice ca m cc) := by rw [hW0]; simp [go_sem]
  have x1 : W0.cell? ⟨w.heap.size + 1, 1, none⟩ = some (.int .i64 due) := by rw [hW0]; simp [go_sem]
  have x2 : W0.cell? ⟨w.heap.size + 1, 2, none⟩ = some (.int .i64 delay) := by rw [hW0]; simp [go_sem]
  have m0 : W0.cell? ⟨w.heap.size + 2, 0, none⟩ = some (.int .i64 mo1) := by rw [hW0]; simp [go_sem]
  have m1 : W0.cell? ⟨w.heap.size + 2, 1, none⟩ = some (.int .i64 mo2) := by rw [hW0]; simp [go_sem]
  have m2 : W0.cell? ⟨w.heap.size + 2, 2, none⟩ = some (.int .i64 mo3) := by rw [hW0]; simp [go_sem]
  rw [← hW0]
  clear hW0
  have hS0 := hS.grown hB0
  have hC0 := hCr.grown hB0
  refine (ready_any L C len long short due delay n cap m cc a ca W0 HL.out hn hS0 HC.out hm hC0).mono ?_
  obtain ⟨th, hth⟩ : ∃ b, ((decide (n ≤ 60) && decide (m ≤ 8)) && decide (faultM len long short due delay L C = 0)) = b := ⟨_, rfl⟩
  rw [hth]
  rintro e w1 ⟨rfl, hb1⟩
  replace y0 := cell_grown hb1 y0; replace y1 := cell_grown hb1 y1; replace y2 := cell_grown hb1 y2; replace y3 := cell_grown hb1 y3; replace x0 := cell_grown hb1 x0; replace x1 := cell_grown hb1 x1; replace x2 := cell_grown hb1 x2; replace m0 := cell_grown hb1 m0; replace m1 := cell_grown hb1 m1; replace m2 := cell_grown hb1 m2; replace hS0 := hS0.grown hb1; replace hC0 := hC0.grown hb1
  have HB := hid (hB0.trans (hb1.mono (by omega)))
  clear hb1 hB0 hS hCr
  cases th
  · go_wp2_with fail
    refine (awake_any w1).mono ?_
    rintro e w' ⟨rfl, hb⟩
    go_wp2
    go_ret
    exact ⟨rfl, HB.out.trans (hb.mono HB.out.size)⟩
  · have hth' : (n ≤ 60 ∧ m ≤ 8) ∧ faultM len long short due delay L C = 0 := by simpa using hth
    clear hth
    obtain ⟨⟨hn60, hm8⟩, hfz⟩ := hth'
    obtain ⟨hs0, ho0⟩ := fault_ok hfz
    have HFV := hid hfz
    obtain ⟨ho1, hdueb, hdelb, -⟩ := offOk_parts ho0
    have hc5 : m ≤ 5 := by rw [← HC.out]; exact ho1.2
    have hc1 : 1 ≤ m := by rw [← HC.out]; exact ho1.1
    have HBC : Hid (∀ i, i < m → 0 ≤ (C.getD i (0, 0, 0)).1 ∧ (C.getD i (0, 0, 0)).1 ≤ (C.getD i (0, 0, 0)).2.1 ∧ (C.getD i (0, 0, 0)).2.1 ≤ 20 ∧ 0 ≤ (C.getD i (0, 0, 0)).2.2 ∧ (C.getD i (0, 0, 0)).2.2 ≤ 36000) := hid (fun i hi => by
      have := crewOk_at (offOk_parts ho0).2.2.2 (i := i) (by rw [HC.out]; exact hi)
      generalize C.getD i (0, 0, 0) = x at this ⊢
      have h3' : (0 ≤ x.1 ∧ x.1 ≤ x.2.1) ∧ x.2.1 ≤ 20 ∧ 0 ≤ x.2.2 ∧ x.2.2 ≤ 36000 := by simpa [repOk, inB] using this
      omega)
    clear hfz hs0 ho0 ho1
    obtain ⟨bc, oc, ea, -, -, -⟩ := hC0 0 (by rw [HC.out]; omega)
    subst ea
    have HNW : Hid (∀ j u, (flat3 C)[j]? = some u → w1.cell? ((⟨bc, oc, none⟩ : Addr).add j) = some u) := hid (by
      intro j u hj
      have hj3 : j < (flat3 C).length := (List.getElem?_eq_some_iff.1 hj).1
      have hlen : (flat3 C).length = C.length * 3 := flat3_length C
      have hadd : (⟨bc, oc, none⟩ : Addr).add j = ⟨bc, oc + j, none⟩ := by unfold Addr.add; split <;> simp_all
      have hi : j / 3 < C.length := by omega
      obtain ⟨b', o', e', d1, d2, d3⟩ := hC0 (j / 3) hi
      simp only [Option.some.injEq, Addr.mk.injEq, and_true] at e'
      obtain ⟨rfl, rfl⟩ := e'
      obtain ⟨f1, f2, f3⟩ := flat3_get C (j / 3) hi
      rw [hadd]
      have hm3 : j % 3 = 0 ∨ j % 3 = 1 ∨ j % 3 = 2 := by omega
      rcases hm3 with h | h | h
      · have e : j = j / 3 * 3 := by omega
        rw [← e] at d1 f1
        rw [d1, ← hj, f1]
      · have e : j = j / 3 * 3 + 1 := by omega
        rw [← e] at f2
        rw [show oc + j = oc + j / 3 * 3 + 1 by omega, d2, ← hj, f2]
      · have e : j = j / 3 * 3 + 2 := by omega
        rw [← e] at f3
        rw [show oc + j = oc + j / 3 * 3 + 2 by omega, d3, ← hj, f3])
    obtain ⟨i91, hi91, hi91a, hi91b, hi91c⟩ := info_parts Try.info91
    have gx := lt_of_cell x0
    have gy := lt_of_cell y0
    have gm := lt_of_cell m0
    have hww : w.heap.size ≤ w1.heap.size := by omega
    obtain ⟨Wx, hWx⟩ : ∃ W, (w1.alloc (.cells #[.slice (some ⟨bc, oc, none⟩) m cc, .int .i64 due, .int .i64 delay] 27)).alloc (.cells #[] 91) = W := ⟨_, rfl⟩
    have hBx : Below w1.heap.size w1 Wx := by rw [← hWx]; exact ((Below.refl _ _).alloc (Nat.le_refl _) _).alloc (by simp) _
    have zx : Wx.heap.size = w1.heap.size + 2 := by rw [← hWx]; simp
    have hownx : Wx.ownsRow (w1.heap.size + 1) 91 3 (.slice (some ⟨w1.heap.size + 1, 0, none⟩) 0 0) 0 [] := by
      refine ⟨by simp, .inr ⟨w1.heap.size + 1, 0, #[], rfl, Nat.le_refl _, ?_, Nat.le_refl _, Nat.zero_le _, rfl, rfl⟩⟩
      rw [← hWx]
      have := World.alloc_heap_new (w1.alloc (.cells #[.slice (some ⟨bc, oc, none⟩) m cc, .int .i64 due, .int .i64 delay] 27)) (.cells #[] 91)
      simp only [World.size_alloc] at this
      exact this
    have hX0 : Wx.heap[w1.heap.size]? = some (.cells #[.slice (some ⟨bc, oc, none⟩) m cc, .int .i64 due, .int .i64 delay] 27 (0, 0)) := by
      rw [← hWx, Below.heap_alloc _ _ _ (show w1.heap.size < (w1.alloc _).heap.size by simp)]
      exact World.alloc_heap_new w1 _
    have hnx : ∀ j u, (flat3 C)[j]? = some u → Wx.cell? ((⟨bc, oc, none⟩ : Addr).add j) = some u := fun j u hj => by
      have h := HNW.out j u hj
      have hadd : (⟨bc, oc, none⟩ : Addr).add j = ⟨bc, oc + j, none⟩ := by unfold Addr.add; split <;> simp_all
      rw [hadd] at h ⊢
      exact cell_grown hBx h
    have HNX := hid hnx
    clear hnx
    have qx0 := cell_grown hBx x0
    go_wp2_with (at_builtin; refine wpList_append_own _ rfl _ _ 25 rfl (w1.heap.size + 1) 91 i91 (.agg #[.int .i64 0, .int .i64 0, .int .i64 0]) 3 24 Try.underlying25 hi91 hi91a hi91b hi91c rfl (by decide) _ 0 _ rfl hownx ⟨bc, oc, none⟩ m cc (flat3 C) rfl (by rw [flat3_length, HC.out]) HNX.out (fun x hx => flat3_one C x hx) (by unfold maxLen; omega) (by omega) (by omega) ?_; intro v' w3 hown' hgrow hnil; obtain ⟨g, vc, rfl, hgb, hown3, hB3, hX3⟩ := crew_copied hBx zx hX0 hc1 hown' hgrow; clear hgrow hnil hown'; have c0 := (cell_of_row w3 w1.heap.size 0 _ _ _ hX3).trans rfl; have f0 : w3.frozen? ⟨w1.heap.size, 0, none⟩ = false := frozen_of_row _ _ _ _ _ hX3)
    obtain ⟨Wy, hWy⟩ : ∃ W, w3.setCell ⟨w1.heap.size, 0, none⟩ (.slice (some ⟨g, 0, none⟩) m vc) = W := ⟨_, rfl⟩
    have hBy : Below w1.heap.size w1 Wy := by rw [← hWy]; exact hB3.setCell (p := ⟨w1.heap.size, 0, none⟩) (Nat.le_refl _) _
    have hXy : Wy.heap[w1.heap.size]? = some (.cells #[.slice (some ⟨g, 0, none⟩) m vc, .int .i64 due, .int .i64 delay] 27 (0, 0)) := by rw [← hWy]; exact (heap_setCell_same w3 w1.heap.size 0 _ 27 _ hX3).trans rfl
    have hOy : Wy.ownsRow (w1.heap.size + 1) 91 3 (.slice (some ⟨g, 0, none⟩) m vc) m (flat3 C) := by rw [← hWy]; exact ownsRow_setCell_below hown3 (a := ⟨w1.heap.size, 0, none⟩) (by simp) _
    rw [hWy]
    clear hWy c0 f0 hX3 hB3 hown3 hWx hBx zx hownx hX0 qx0 gx gy gm
    clear HNW HNX
    have zy0 := y0; have zy1 := y1; have zy2 := y2; have zy3 := y3; have zx0 := x0; have zx1 := x1; have zx2 := x2
    have hS1 := hS0
    have hC1 := hC0
    replace y0 := cell_grown hBy y0; replace y1 := cell_grown hBy y1; replace y2 := cell_grown hBy y2; replace y3 := cell_grown hBy y3; replace x0 := cell_grown hBy x0; replace x1 := cell_grown hBy x1; replace x2 := cell_grown hBy x2; replace m0 := cell_grown hBy m0; replace m1 := cell_grown hBy m1; replace m2 := cell_grown hBy m2; replace hS0 := hS0.grown hBy; replace hC0 := hC0.grown hBy
    replace HB := hid (HB.out.trans (hBy.mono HB.out.size))
    have c0 := (cell_of_row Wy w1.heap.size 0 _ _ _ hXy).trans rfl
    have c1 := (cell_of_row Wy w1.heap.size 1 _ _ _ hXy).trans rfl
    have c2 := (cell_of_row Wy w1.heap.size 2 _ _ _ hXy).trans rfl
    have f0 : Wy.frozen? ⟨w1.heap.size, 0, none⟩ = false := frozen_of_row _ _ _ _ _ hXy
    have f1 : Wy.frozen? ⟨w1.heap.size, 1, none⟩ = false := frozen_of_row _ _ _ _ _ hXy
    have f2 : Wy.frozen? ⟨w1.heap.size, 2, none⟩ = false := frozen_of_row _ _ _ _ _ hXy
    obtain ⟨ix, hix⟩ : ∃ ix : Nat, at_ % (m : Int) = (ix : Int) := ⟨(at_ % (m : Int)).toNat, by have := Int.emod_nonneg at_ (show (m : Int) ≠ 0 by omega); omega⟩
    have hixl : (ix : Int) < m := by rw [← hix]; exact Int.emod_lt_of_pos _ (by omega)
    have htm : at_.tmod (m : Int) = (ix : Int) := by rw [Int.tmod_eq_emod_of_nonneg hat.1]; exact hix
    have hw8 : IntKind.i64.wrap at_ = at_ := by rw [IntKind.wrap_i64]; omega
    have hwt : IntKind.i64.wrap (at_.tmod (m : Int)) = (ix : Int) := by rw [htm, IntKind.wrap_i64]; omega
    have hmz : ¬ (m : Int) = 0 := by omega
    have hmz2 : ((m : Int) == 0) = false := by simp; omega
    have gX := lt_of_cell c0
    go_big_quiet (fail)
    go_upto_block 0 with fail
    go_cut [13] (fun c wc => c = .pointer (some ⟨w1.heap.size, 0, none⟩) ∧ EasedAt C due delay Wy w1.heap.size wc)
    case first =>
      have hBz : Below w1.heap.size Wy (Wy.drewN nq) := below_drewN (Below.refl _ _) _
      obtain ⟨Wz, hWz⟩ : ∃ W, Wy.drewN nq = W := ⟨_, rfl⟩
      rw [hWz] at hBz
      have hOz : Wz.ownsRow (w1.heap.size + 1) 91 3 (.slice (some ⟨g, 0, none⟩) m vc) m (flat3 C) := by rw [← hWz]; exact ownsRow_below hOy (below_drewN (Below.refl _ _) _)
      replace c0 : Wz.cell? ⟨w1.heap.size, 0, none⟩ = some (.slice (some ⟨g, 0, none⟩) m vc) := by rw [← hWz]; simpa [go_sem] using c0
      replace c1 : Wz.cell? ⟨w1.heap.size, 1, none⟩ = some (.int .i64 due) := by rw [← hWz]; simpa [go_sem] using c1
      replace c2 : Wz.cell? ⟨w1.heap.size, 2, none⟩ = some (.int .i64 delay) := by rw [← hWz]; simpa [go_sem] using c2
      replace f0 : Wz.frozen? ⟨w1.heap.size, 0, none⟩ = false := by rw [← hWz]; simpa [go_sem] using f0
      replace f1 : Wz.frozen? ⟨w1.heap.size, 1, none⟩ = false := by rw [← hWz]; simpa [go_sem] using f1
      replace f2 : Wz.frozen? ⟨w1.heap.size, 2, none⟩ = false := by rw [← hWz]; simpa [go_sem] using f2
      have hXz : Wz.heap[w1.heap.size]? = some (.cells #[.slice (some ⟨g, 0, none⟩) m vc, .int .i64 due, .int .i64 delay] 27 (0, 0)) := by rw [← hWz]; exact hXy
      have m0' : Wz.cell? ⟨w.heap.size + 1 + 1, 0, none⟩ = some (.int .i64 mo1) := by rw [← hWz]; simpa [go_sem] using m0
      have m1' : Wz.cell? ⟨w.heap.size + 1 + 1, 1, none⟩ = some (.int .i64 mo2) := by rw [← hWz]; simpa [go_sem] using m1
      have m2' : Wz.cell? ⟨w.heap.size + 1 + 1, 2, none⟩ = some (.int .i64 mo3) := by rw [← hWz]; simpa [go_sem] using m2
      rw [hWz]
      clear hWz hOy hXy
      have hixn : ix < C.length := by rw [HC.out]; omega
      have hbx := HBC.out ix (by omega)
      have hcl := hOz.cells (g := g) rfl
      have hadd : ∀ j, (⟨g, 0, none⟩ : Addr).add j = ⟨g, 0 + j, none⟩ := fun j => addr_add0 g j
      obtain ⟨e0, e1, e2⟩ := flat3_get C ix hixn
      obtain ⟨lo, hi, rest, hCx⟩ : ∃ lo hi rest, C.getD ix (0, 0, 0) = (lo, hi, rest) := ⟨_, _, _, rfl⟩
      rw [hCx] at e0 e1 e2 hbx
      have r0 := hcl _ _ e0
      have r1 := hcl _ _ e1
      have r2 := hcl _ _ e2
      rw [hadd, Nat.zero_add] at r0 r1 r2
      have q1 : Wz.frozen? ⟨g, ix * 3 + 1, none⟩ = false := hOz.frozenAt _
      have q2 : Wz.frozen? ⟨g, ix * 3 + 2, none⟩ = false := hOz.frozenAt _
      have gg := lt_of_cell r0
      have HCX := hid hCx
      have HOZ := hid hOz
      have HEB : Hid (∀ i, i < C.length → 0 ≤ (C.getD i (0, 0, 0)).2.1) := hid (fun i hi => by have := HBC.out i (by rw [← HC.out]; exact hi); omega)
      simp only at hbx
      clear hcl hadd e0 e1 e2 hCx hOz
      have hwb : IntKind.i64.wrap by_ = by_ := by rw [IntKind.wrap_i64]; omega
      have hparts : which % 5 = 0 ∨ which % 5 = 1 ∨ which % 5 = 2 ∨ which % 5 = 3 ∨ which % 5 = 4 := by omega
      rcases hparts with e | e | e | e | e
      · have k0 : (which % 5 == 0) = true := by rw [e]; rfl
        clear e
        have hws : IntKind.i64.wrap (due + by_) = due + by_ := by rw [IntKind.wrap_i64]; omega
        go_wp2_with fail
        all_goals
          go_meet
          exact ⟨rfl, easedAt_due HOZ.out HC.out (by omega) hBz HEB.out c0 c1 c2 (by omega)⟩
      · have k0 : (which % 5 == 0) = false := by rw [e]; rfl
        have k1 : (which % 5 == 1) = true := by rw [e]; rfl
        clear e
        have hws : IntKind.i64.wrap (delay - by_) = delay - by_ := by rw [IntKind.wrap_i64]; omega
        go_wp2_with fail
        all_goals
          go_meet
          exact ⟨rfl, easedAt_delay HOZ.out HC.out (by omega) hBz HEB.out c0 c1 c2 (by omega)⟩
      · have k0 : (which % 5 == 0) = false := by rw [e]; rfl
        have k1 : (which % 5 == 1) = false := by rw [e]; rfl
        have k2 : (which % 5 == 2) = true := by rw [e]; rfl
        clear e
        have hws : IntKind.i64.wrap (rest - by_) = rest - by_ := by rw [IntKind.wrap_i64]; omega
        go_wp2_with fail
        all_goals
          go_meet
          exact ⟨rfl, easedAt_rest _ HOZ.out HC.out (by omega) hBz HEB.out c0 c1 c2 hixn HCX.out (by omega) (by omega)⟩
      · have k0 : (which % 5 == 0) = false := by rw [e]; rfl
        have k1 : (which % 5 == 1) = false := by rw [e]; rfl
        have k2 : (which % 5 == 2) = false := by rw [e]; rfl
        have k3 : (which % 5 == 3) = true := by rw [e]; rfl
        clear e
        have hwt5 : by_.tmod 5 = by_ % 5 := Int.tmod_eq_emod_of_nonneg hby.1
        have hwq : IntKind.i64.wrap (by_.tmod 5) = by_ % 5 := by rw [hwt5, IntKind.wrap_i64]; omega
        have hws : IntKind.i64.wrap (hi - by_ % 5) = hi - by_ % 5 := by rw [IntKind.wrap_i64]; omega
        go_wp2_with fail
        go_region
        all_goals go_wp2_with fail
        all_goals
          go_meet
          exact ⟨rfl, (easedAt_hi _ HOZ.out HC.out (by omega) hBz HEB.out c0 c1 c2 hixn HCX.out (by omega) (by omega)).drew⟩
      · have k0 : (which % 5 == 0) = false := by rw [e]; rfl
        have k1 : (which % 5 == 1) = false := by rw [e]; rfl
        have k2 : (which % 5 == 2) = false := by rw [e]; rfl
        have k3 : (which % 5 == 3) = false := by rw [e]; rfl
        clear e
        by_cases h5 : m < 5
        · have h5' : (m : Int) < 5 := by omega
          go_wp2_with (at_builtin; refine wpList_append_own _ rfl _ _ 25 rfl (w1.heap.size + 1) 91 i91 (.agg #[.int .i64 0, .int .i64 0, .int .i64 0]) 3 24 Try.underlying25 hi91 hi91a hi91b hi91c rfl (by decide) _ m _ rfl (HOZ.out.alloc _) ⟨Wz.heap.size, 0, none⟩ 1 1 (flat3 [(mo1, mo2, mo3)]) rfl rfl (cell_three_new _ _ _ _ _ _ rfl) (fun x hx => flat3_one _ x hx) (by unfold maxLen; omega) (by omega) (by have := hBz.size; simp; omega) ?_; intro v' w3 hown' hgrow hnil; obtain ⟨va, vcc, hvv⟩ := owns_shape hown'; subst hvv; obtain ⟨hX3, HEND⟩ := easedAt_more hXz HC.out (by omega) hBz hgb HEB.out hown' hgrow; clear hgrow hnil hown'; have c0 := (cell_of_row w3 w1.heap.size 0 _ _ _ hX3).trans rfl; have f0 : w3.frozen? ⟨w1.heap.size, 0, none⟩ = false := frozen_of_row _ _ _ _ _ hX3)
          go_meet
          exact ⟨rfl, HEND⟩
        · have h5' : decide ((m : Int) < 5) = false := by simp; omega
          go_wp2_with fail
          go_meet
          exact ⟨rfl, easedAt_same HOZ.out HC.out (by omega) hBz HEB.out c0 c1 c2⟩
    case rest =>
      clear c0 c1 c2 f0 f1 f2 hXy hOy hix hixl htm hw8 hwt hmz hmz2 gX
      obtain ⟨rfl, due', delay', C', ra', rn', rc', c0, c1, c2, hCx, HC', hrn8, hBc, hdu, hdl, HEA⟩ := hcut
      have hBcw : Below w1.heap.size w1 wc := hBy.trans hBc
      replace HB := hid (HB.out.trans (hBc.mono hww))
      replace y0 := cell_grown hBcw zy0; replace y1 := cell_grown hBcw zy1; replace y2 := cell_grown hBcw zy2; replace y3 := cell_grown hBcw zy3; replace x0 := cell_grown hBcw zx0; replace x1 := cell_grown hBcw zx1; replace x2 := cell_grown hBcw zx2
      replace hS0 := hS1.grown hBcw
      replace hC0 := hC1.grown hBcw
      clear hBy hBc hBcw hS1 hC1 zy0 zy1 zy2 zy3 zx0 zx1 zx2 m0 m1 m2
      go_wp2_with fail
      refine (rightOffice_any C' due' delay' rn' rc' ra' wc HC'.out (by unfold maxLen; omega) hCx).mono ?_
      obtain ⟨ok, hok⟩ : ∃ b, offOk due' delay' C' = b := ⟨_, rfl⟩
      rw [hok]
      rintro e w4 ⟨rfl, hb4⟩
      replace y0 := cell_grown hb4 y0; replace y1 := cell_grown hb4 y1; replace y2 := cell_grown hb4 y2; replace y3 := cell_grown hb4 y3; replace x0 := cell_grown hb4 x0; replace x1 := cell_grown hb4 x1; replace x2 := cell_grown hb4 x2; replace c0 := cell_grown hb4 c0; replace c1 := cell_grown hb4 c1; replace c2 := cell_grown hb4 c2; replace hS0 := hS0.grown hb4; replace hC0 := hC0.grown hb4; replace hCx := hCx.grown hb4; replace HB := hid (HB.out.trans (hb4.mono HB.out.size))
      clear hb4
      cases ok
      · go_wp2_with fail
        refine (awake_any w4).mono ?_
        rintro e w' ⟨rfl, hb⟩
        go_wp2
        go_ret
        exact ⟨rfl, HB.out.trans (hb.mono HB.out.size)⟩

      · have HOK' := hid hok
        have HE := hid (HEA.out hok)
        clear hok HEA
        have hBd : Below w4.heap.size w4 w4.drew := (Below.refl _ _).drew
        go_wp2_with fail
        go_region_held3 (fun w' : World => w'.cell? ⟨w.heap.size, 0, none⟩ = some (.int .i64 len) ∧ w'.cell? ⟨w.heap.size, 1, none⟩ = some (.slice a n cap) ∧ w'.cell? ⟨w.heap.size, 2, none⟩ = some (.int .i64 long) ∧ w'.cell? ⟨w.heap.size, 3, none⟩ = some (.int .i64 short) ∧ w'.cell? ⟨w.heap.size + 1, 0, none⟩ = some (.slice (some ⟨bc, oc, none⟩) m cc) ∧ w'.cell? ⟨w.heap.size + 1, 1, none⟩ = some (.int .i64 due) ∧ w'.cell? ⟨w.heap.size + 1, 2, none⟩ = some (.int .i64 delay) ∧ w'.cell? ⟨w1.heap.size, 0, none⟩ = some (.slice ra' rn' rc') ∧ w'.cell? ⟨w1.heap.size, 1, none⟩ = some (.int .i64 due') ∧ w'.cell? ⟨w1.heap.size, 2, none⟩ = some (.int .i64 delay')) (exact ⟨y0, y1, y2, y3, x0, x1, x2, c0, c1, c2⟩) (first | (go_at_call 18; replace y0 := cell_grown hBd y0; replace y1 := cell_grown hBd y1; replace y2 := cell_grown hBd y2; replace y3 := cell_grown hBd y3; replace x0 := cell_grown hBd x0; replace x1 := cell_grown hBd x1; replace x2 := cell_grown hBd x2; replace c0 := cell_grown hBd c0; replace c1 := cell_grown hBd c1; replace c2 := cell_grown hBd c2; replace hS0 := hS0.grown hBd; replace hC0 := hC0.grown hBd; replace hCx := hCx.grown hBd; replace HB := hid (HB.out.trans (hBd.mono HB.out.size)); refine (sitting_any L len long short n cap a _ HL.out hn60 hS0).mono ?_; rintro e w2 ⟨ra, rc, rfl, hSr, hb2⟩; replace y0 := cell_grown hb2 y0; replace y1 := cell_grown hb2 y1; replace y2 := cell_grown hb2 y2; replace y3 := cell_grown hb2 y3; replace x0 := cell_grown hb2 x0; replace x1 := cell_grown hb2 x1; replace x2 := cell_grown hb2 x2; replace c0 := cell_grown hb2 c0; replace c1 := cell_grown hb2 c1; replace c2 := cell_grown hb2 c2; replace hS0 := hS0.grown hb2; replace hC0 := hC0.grown hb2; replace hCx := hCx.grown hb2; replace HB := hid (HB.out.trans (hb2.mono HB.out.size))) | (go_at_call 20; refine (office_any C due delay m cc _ _ HC.out (by omega) hC0).mono ?_; rintro e w3 ⟨rb, rd, rfl, hCr3, hb3⟩; replace y0 := cell_grown hb3 y0; replace y1 := cell_grown hb3 y1; replace y2 := cell_grown hb3 y2; replace y3 := cell_grown hb3 y3; replace x0 := cell_grown hb3 x0; replace x1 := cell_grown hb3 x1; replace x2 := cell_grown hb3 x2; replace c0 := cell_grown hb3 c0; replace c1 := cell_grown hb3 c1; replace c2 := cell_grown hb3 c2; replace hS0 := hS0.grown hb3; replace hC0 := hC0.grown hb3; replace hCx := hCx.grown hb3; replace hSr := hSr.grown hb3; replace HB := hid (HB.out.trans (hb3.mono HB.out.size))) | (go_at_call 29; refine (rota_any L len long short due delay C n rc m rd ra rb _ HL.out hn hSr HC.out hm hCr3).mono ?_; intro e w10 hpost; obtain ⟨va, vn, vc, er, R, rfl, hb10, hRn, hRI, HRO⟩ := rota_one hpost HFV.out; replace y0 := cell_grown hb10 y0; replace y1 := cell_grown hb10 y1; replace y2 := cell_grown hb10 y2; replace y3 := cell_grown hb10 y3; replace x0 := cell_grown hb10 x0; replace x1 := cell_grown hb10 x1; replace x2 := cell_grown hb10 x2; replace c0 := cell_grown hb10 c0; replace c1 := cell_grown hb10 c1; replace c2 := cell_grown hb10 c2; replace hS0 := hS0.grown hb10; replace hC0 := hC0.grown hb10; replace hCx := hCx.grown hb10; replace HB := hid (HB.out.trans (hb10.mono HB.out.size))))
        clear hpost hb2 hb3 hb10 hSr hCr3 hBd
        have HFW : Hid (faultM len long short due' delay' L C' = 0) := hid (by
          obtain ⟨h1, -⟩ := fault_ok HFV.out
          unfold faultM
          rw [if_pos h1, if_pos HOK'.out])
        have hBd : Below w10.heap.size w10 w10.drew := (Below.refl _ _).drew
        rcases HRO.out with ⟨her, hbest⟩ | ⟨her, hRnil, rc0, hrc0, hdead0⟩
        · have HPV : Hid (proveM len long short due' delay' L C' (R.map fun r : Nat => (r : Int)) = true) := hid (ease_proves HFV.out HOK'.out HE.out hdl hdu hbest)
          have hvn40 : vn ≤ 40 := by
            obtain ⟨h1, -⟩ := fault_ok HFV.out
            obtain ⟨-, h4⟩ := sitErr_zero h1
            have h5 := hbest.2.1
            have h6 : (howOf due delay C (takesOf len long short L)).tn = (takesOf len long short L).length := rfl
            omega
          obtain ⟨Z, hZ⟩ : ∃ Z, (R.map fun r : Nat => (r : Int)) = Z := ⟨_, rfl⟩
          have HZl : Hid (Z.length = vn) := hid (by rw [← hZ, List.length_map]; exact hRn)
          rw [hZ] at HPV hRI
          subst her
          clear hZ hRn hbest HRO
          go_wp2_with fail
          go_region_held3 (fun w' : World => w'.cell? ⟨w.heap.size, 0, none⟩ = some (.int .i64 len) ∧ w'.cell? ⟨w.heap.size, 1, none⟩ = some (.slice a n cap) ∧ w'.cell? ⟨w.heap.size, 2, none⟩ = some (.int .i64 long) ∧ w'.cell? ⟨w.heap.size, 3, none⟩ = some (.int .i64 short) ∧ w'.cell? ⟨w.heap.size + 1, 0, none⟩ = some (.slice (some ⟨bc, oc, none⟩) m cc) ∧ w'.cell? ⟨w.heap.size + 1, 1, none⟩ = some (.int .i64 due) ∧ w'.cell? ⟨w.heap.size + 1, 2, none⟩ = some (.int .i64 delay) ∧ w'.cell? ⟨w1.heap.size, 0, none⟩ = some (.slice ra' rn' rc') ∧ w'.cell? ⟨w1.heap.size, 1, none⟩ = some (.int .i64 due') ∧ w'.cell? ⟨w1.heap.size, 2, none⟩ = some (.int .i64 delay')) (exact ⟨y0, y1, y2, y3, x0, x1, x2, c0, c1, c2⟩) (first | (go_at_call 18; replace y0 := cell_grown hBd y0; replace y1 := cell_grown hBd y1; replace y2 := cell_grown hBd y2; replace y3 := cell_grown hBd y3; replace x0 := cell_grown hBd x0; replace x1 := cell_grown hBd x1; replace x2 := cell_grown hBd x2; replace c0 := cell_grown hBd c0; replace c1 := cell_grown hBd c1; replace c2 := cell_grown hBd c2; replace hS0 := hS0.grown hBd; replace hC0 := hC0.grown hBd; replace hCx := hCx.grown hBd; replace hRI := hRI.grown hBd; replace HB := hid (HB.out.trans (hBd.mono HB.out.size)); refine (sitting_any L len long short n cap a _ HL.out hn60 hS0).mono ?_; rintro e w2 ⟨ra, rc, rfl, hSr, hb2⟩; replace y0 := cell_grown hb2 y0; replace y1 := cell_grown hb2 y1; replace y2 := cell_grown hb2 y2; replace y3 := cell_grown hb2 y3; replace x0 := cell_grown hb2 x0; replace x1 := cell_grown hb2 x1; replace x2 := cell_grown hb2 x2; replace c0 := cell_grown hb2 c0; replace c1 := cell_grown hb2 c1; replace c2 := cell_grown hb2 c2; replace hS0 := hS0.grown hb2; replace hC0 := hC0.grown hb2; replace hCx := hCx.grown hb2; replace hRI := hRI.grown hb2; replace HB := hid (HB.out.trans (hb2.mono HB.out.size))) | (go_at_call 20; refine (office_any C' due' delay' rn' rc' _ _ HC'.out (by omega) hCx).mono ?_; rintro e w3 ⟨rb, rd, rfl, hCr3, hb3⟩; replace y0 := cell_grown hb3 y0; replace y1 := cell_grown hb3 y1; replace y2 := cell_grown hb3 y2; replace y3 := cell_grown hb3 y3; replace x0 := cell_grown hb3 x0; replace x1 := cell_grown hb3 x1; replace x2 := cell_grown hb3 x2; replace c0 := cell_grown hb3 c0; replace c1 := cell_grown hb3 c1; replace c2 := cell_grown hb3 c2; replace hS0 := hS0.grown hb3; replace hC0 := hC0.grown hb3; replace hCx := hCx.grown hb3; replace hRI := hRI.grown hb3; replace hSr := hSr.grown hb3; replace HB := hid (HB.out.trans (hb3.mono HB.out.size))) | (go_at_call 35; refine (list_free Z vn vc va _ HZl.out (by omega) hRI).mono ?_; rintro e w5 ⟨vz, rfl, hownz, hb5⟩; obtain ⟨rz2, rzc2, rfl⟩ := owns_shape hownz; have hIz2 := ints_of_owns1 HZl.out hownz; replace y0 := cell_grown hb5 y0; replace y1 := cell_grown hb5 y1; replace y2 := cell_grown hb5 y2; replace y3 := cell_grown hb5 y3; replace x0 := cell_grown hb5 x0; replace x1 := cell_grown hb5 x1; replace x2 := cell_grown hb5 x2; replace c0 := cell_grown hb5 c0; replace c1 := cell_grown hb5 c1; replace c2 := cell_grown hb5 c2; replace hS0 := hS0.grown hb5; replace hC0 := hC0.grown hb5; replace hCx := hCx.grown hb5; replace hSr := hSr.grown hb5; replace hCr3 := hCr3.grown hb5; replace hRI := hRI.grown hb5; replace HB := hid (HB.out.trans (hb5.mono HB.out.size))) | (go_at_call 38; refine (prove_any L len long short due' delay' C' Z n rc rn' rd vn rzc2 ra rb rz2 _ HL.out hn hSr HC'.out (by unfold maxLen; omega) hCr3 HZl.out (by unfold maxLen; omega) hIz2).mono ?_; rw [HPV.out]; rintro e w6 ⟨rfl, hb6⟩; replace y0 := cell_grown hb6 y0; replace y1 := cell_grown hb6 y1; replace y2 := cell_grown hb6 y2; replace y3 := cell_grown hb6 y3; replace x0 := cell_grown hb6 x0; replace x1 := cell_grown hb6 x1; replace x2 := cell_grown hb6 x2; replace c0 := cell_grown hb6 c0; replace c1 := cell_grown hb6 c1; replace c2 := cell_grown hb6 c2; replace hS0 := hS0.grown hb6; replace hC0 := hC0.grown hb6; replace hCx := hCx.grown hb6; replace HB := hid (HB.out.trans (hb6.mono HB.out.size))) | (go_at_call 16; refine (awake_any _).mono ?_; rintro e w7 ⟨rfl, hb7⟩; replace y0 := cell_grown hb7 y0; replace y1 := cell_grown hb7 y1; replace y2 := cell_grown hb7 y2; replace y3 := cell_grown hb7 y3; replace x0 := cell_grown hb7 x0; replace x1 := cell_grown hb7 x1; replace x2 := cell_grown hb7 x2; replace c0 := cell_grown hb7 c0; replace c1 := cell_grown hb7 c1; replace c2 := cell_grown hb7 c2; replace hS0 := hS0.grown hb7; replace hC0 := hC0.grown hb7; replace hCx := hCx.grown hb7; replace HB := hid (HB.out.trans (hb7.mono HB.out.size))))
          go_wp2
          go_ret
          exact ⟨rfl, HB.out⟩
        · subst her
          clear hRnil hRn hRI hrc0
          go_wp2_with fail
          go_region_held3 (fun w' : World => w'.cell? ⟨w.heap.size, 0, none⟩ = some (.int .i64 len) ∧ w'.cell? ⟨w.heap.size, 1, none⟩ = some (.slice a n cap) ∧ w'.cell? ⟨w.heap.size, 2, none⟩ = some (.int .i64 long) ∧ w'.cell? ⟨w.heap.size, 3, none⟩ = some (.int .i64 short) ∧ w'.cell? ⟨w.heap.size + 1, 0, none⟩ = some (.slice (some ⟨bc, oc, none⟩) m cc) ∧ w'.cell? ⟨w.heap.size + 1, 1, none⟩ = some (.int .i64 due) ∧ w'.cell? ⟨w.heap.size + 1, 2, none⟩ = some (.int .i64 delay) ∧ w'.cell? ⟨w1.heap.size, 0, none⟩ = some (.slice ra' rn' rc') ∧ w'.cell? ⟨w1.heap.size, 1, none⟩ = some (.int .i64 due') ∧ w'.cell? ⟨w1.heap.size, 2, none⟩ = some (.int .i64 delay')) (exact ⟨y0, y1, y2, y3, x0, x1, x2, c0, c1, c2⟩) (first | (go_at_call 18; replace y0 := cell_grown hBd y0; replace y1 := cell_grown hBd y1; replace y2 := cell_grown hBd y2; replace y3 := cell_grown hBd y3; replace x0 := cell_grown hBd x0; replace x1 := cell_grown hBd x1; replace x2 := cell_grown hBd x2; replace c0 := cell_grown hBd c0; replace c1 := cell_grown hBd c1; replace c2 := cell_grown hBd c2; replace hS0 := hS0.grown hBd; replace hC0 := hC0.grown hBd; replace hCx := hCx.grown hBd; replace HB := hid (HB.out.trans (hBd.mono HB.out.size)); refine (sitting_any L len long short n cap a _ HL.out hn60 hS0).mono ?_; rintro e w2 ⟨ra, rc, rfl, hSr, hb2⟩; replace y0 := cell_grown hb2 y0; replace y1 := cell_grown hb2 y1; replace y2 := cell_grown hb2 y2; replace y3 := cell_grown hb2 y3; replace x0 := cell_grown hb2 x0; replace x1 := cell_grown hb2 x1; replace x2 := cell_grown hb2 x2; replace c0 := cell_grown hb2 c0; replace c1 := cell_grown hb2 c1; replace c2 := cell_grown hb2 c2; replace hS0 := hS0.grown hb2; replace hC0 := hC0.grown hb2; replace hCx := hCx.grown hb2; replace HB := hid (HB.out.trans (hb2.mono HB.out.size))) | (go_at_call 20; refine (office_any C due delay m cc _ _ HC.out (by omega) hC0).mono ?_; rintro e w3 ⟨rb, rd, rfl, hCr3, hb3⟩; replace y0 := cell_grown hb3 y0; replace y1 := cell_grown hb3 y1; replace y2 := cell_grown hb3 y2; replace y3 := cell_grown hb3 y3; replace x0 := cell_grown hb3 x0; replace x1 := cell_grown hb3 x1; replace x2 := cell_grown hb3 x2; replace c0 := cell_grown hb3 c0; replace c1 := cell_grown hb3 c1; replace c2 := cell_grown hb3 c2; replace hS0 := hS0.grown hb3; replace hC0 := hC0.grown hb3; replace hCx := hCx.grown hb3; replace hSr := hSr.grown hb3; replace HB := hid (HB.out.trans (hb3.mono HB.out.size))) | (go_at_call 30; refine (fails_any L len long short due delay C n rc m rd ra rb _ HL.out hn hSr HC.out hm hCr3).mono ?_; intro e w11 hpost; obtain ⟨fz, fe, rfl, hb11, HFO⟩ := fails_form hpost HFV.out; replace y0 := cell_grown hb11 y0; replace y1 := cell_grown hb11 y1; replace y2 := cell_grown hb11 y2; replace y3 := cell_grown hb11 y3; replace x0 := cell_grown hb11 x0; replace x1 := cell_grown hb11 x1; replace x2 := cell_grown hb11 x2; replace c0 := cell_grown hb11 c0; replace c1 := cell_grown hb11 c1; replace c2 := cell_grown hb11 c2; replace hS0 := hS0.grown hb11; replace hC0 := hC0.grown hb11; replace hCx := hCx.grown hb11; replace HB := hid (HB.out.trans (hb11.mono HB.out.size))))
          clear hpost hb2 hb3 hb11 hSr hCr3 hBd
          have hBd : Below w11.heap.size w11 w11.drew := (Below.refl _ _).drew
          go_wp2_with fail
          go_region_held3 (fun w' : World => w'.cell? ⟨w.heap.size, 0, none⟩ = some (.int .i64 len) ∧ w'.cell? ⟨w.heap.size, 1, none⟩ = some (.slice a n cap) ∧ w'.cell? ⟨w.heap.size, 2, none⟩ = some (.int .i64 long) ∧ w'.cell? ⟨w.heap.size, 3, none⟩ = some (.int .i64 short) ∧ w'.cell? ⟨w.heap.size + 1, 0, none⟩ = some (.slice (some ⟨bc, oc, none⟩) m cc) ∧ w'.cell? ⟨w.heap.size + 1, 1, none⟩ = some (.int .i64 due) ∧ w'.cell? ⟨w.heap.size + 1, 2, none⟩ = some (.int .i64 delay) ∧ w'.cell? ⟨w1.heap.size, 0, none⟩ = some (.slice ra' rn' rc') ∧ w'.cell? ⟨w1.heap.size, 1, none⟩ = some (.int .i64 due') ∧ w'.cell? ⟨w1.heap.size, 2, none⟩ = some (.int .i64 delay')) (exact ⟨y0, y1, y2, y3, x0, x1, x2, c0, c1, c2⟩) (first | (go_at_call 18; replace y0 := cell_grown hBd y0; replace y1 := cell_grown hBd y1; replace y2 := cell_grown hBd y2; replace y3 := cell_grown hBd y3; replace x0 := cell_grown hBd x0; replace x1 := cell_grown hBd x1; replace x2 := cell_grown hBd x2; replace c0 := cell_grown hBd c0; replace c1 := cell_grown hBd c1; replace c2 := cell_grown hBd c2; replace hS0 := hS0.grown hBd; replace hC0 := hC0.grown hBd; replace hCx := hCx.grown hBd; replace HB := hid (HB.out.trans (hBd.mono HB.out.size)); refine (sitting_any L len long short n cap a _ HL.out hn60 hS0).mono ?_; rintro e w2 ⟨ra, rc, rfl, hSr, hb2⟩; replace y0 := cell_grown hb2 y0; replace y1 := cell_grown hb2 y1; replace y2 := cell_grown hb2 y2; replace y3 := cell_grown hb2 y3; replace x0 := cell_grown hb2 x0; replace x1 := cell_grown hb2 x1; replace x2 := cell_grown hb2 x2; replace c0 := cell_grown hb2 c0; replace c1 := cell_grown hb2 c1; replace c2 := cell_grown hb2 c2; replace hS0 := hS0.grown hb2; replace hC0 := hC0.grown hb2; replace hCx := hCx.grown hb2; replace HB := hid (HB.out.trans (hb2.mono HB.out.size))) | (go_at_call 20; refine (office_any C' due' delay' rn' rc' _ _ HC'.out (by omega) hCx).mono ?_; rintro e w3 ⟨rb, rd, rfl, hCr3, hb3⟩; replace y0 := cell_grown hb3 y0; replace y1 := cell_grown hb3 y1; replace y2 := cell_grown hb3 y2; replace y3 := cell_grown hb3 y3; replace x0 := cell_grown hb3 x0; replace x1 := cell_grown hb3 x1; replace x2 := cell_grown hb3 x2; replace c0 := cell_grown hb3 c0; replace c1 := cell_grown hb3 c1; replace c2 := cell_grown hb3 c2; replace hS0 := hS0.grown hb3; replace hC0 := hC0.grown hb3; replace hCx := hCx.grown hb3; replace hSr := hSr.grown hb3; replace HB := hid (HB.out.trans (hb3.mono HB.out.size))) | (go_at_call 30; refine (fails_any L len long short due' delay' C' n rc rn' rd ra rb _ HL.out hn hSr HC'.out (by unfold maxLen; omega) hCr3).mono ?_; intro e w12 hpost; obtain ⟨gz, ge, rfl, hb12, HGO⟩ := fails_form hpost HFW.out; replace y0 := cell_grown hb12 y0; replace y1 := cell_grown hb12 y1; replace y2 := cell_grown hb12 y2; replace y3 := cell_grown hb12 y3; replace x0 := cell_grown hb12 x0; replace x1 := cell_grown hb12 x1; replace x2 := cell_grown hb12 x2; replace c0 := cell_grown hb12 c0; replace c1 := cell_grown hb12 c1; replace c2 := cell_grown hb12 c2; replace hS0 := hS0.grown hb12; replace hC0 := hC0.grown hb12; replace hCx := hCx.grown hb12; replace HB := hid (HB.out.trans (hb12.mono HB.out.size))))
          clear hpost hb2 hb3 hb12 hSr hCr3 hBd
          rcases HFO.out with ⟨_, _, R', hbest⟩ | ⟨q, hfz, hfe, hq, hrp, hdq⟩
          · exact (best_not_dead hbest hdead0).elim
          · rcases HGO.out with ⟨hgz, hge, _⟩ | ⟨q', hgz, hge, _, _, hdq'⟩
            · subst hfe hge
              clear hdead0 hq hrp hdq HFO HGO HRO hfz hgz
              go_wp2_with fail
              refine (awake_any w12).mono ?_
              rintro e w' ⟨rfl, hb⟩
              go_wp2
              go_ret
              exact ⟨rfl, HB.out.trans (hb.mono HB.out.size)⟩

            · have hqq := ease_fails HFV.out HOK'.out HE.out hdl hdu hq hrp hdq'
              subst hfe hge hfz hgz
              clear hdead0 hq hrp hdq hdq' HFO HGO HRO
              have k1 : decide ((q : Int) ≤ (q' : Int)) = true := by simpa using hqq
              have k2 : decide (q ≤ q') = true := by simpa using hqq
              go_wp2_with fail
              refine (awake_any w12).mono ?_
              rintro e w' ⟨rfl, hb⟩
              go_wp2
              go_ret
              exact ⟨rfl, HB.out.trans (hb.mono HB.out.size)⟩


end Go.Proofs.Ytgapbaelifcifaa
