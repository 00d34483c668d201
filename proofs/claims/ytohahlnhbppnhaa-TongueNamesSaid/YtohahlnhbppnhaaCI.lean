/- Tongue: whether a table proves a cost. -/
import Derived.Test.YtohahlnhbppnhaaCH
import Derived.Test.YtohahlnhbppnhaaL
import Derived.Test.YtohahlnhbppnhaaN
import Derived.Test.YtohahlnhbppnhaaT
import Derived.Test.YtohahlnhbppnhaaBU
namespace Go.Proofs.Ytohahlnhbppnhaa
open Go.RowKit Go.Shelf Go.Maps
set_option linter.unusedSimpArgs false
set_option linter.unusedVariables false

attribute [local go_sem] Oper.semAt_some

theorem region_calm {F : Fence} {n : Nat} {P : Program} {c : Code} {Q : Exit → Act → World → Prop} {a : Act} {w : World} (h : c.wpIn F n P (fun e a w => e = .normal ∧ Q .normal a w) a w) : c.wpIn F n P Q a w :=
  Code.wpIn_mono (fun e a w h => by obtain ⟨rfl, h⟩ := h; exact h) h

set_option maxRecDepth 100000 in
set_option maxHeartbeats 4000000 in
theorem proves_any (L R : List Sen) (T : List (List Int)) (nl cl nr cr b b0 b2 t tc : Nat) (cost : Int) (la ra ta : Option Addr) (w : World) (hL : L.length = nl) (hR : R.length = nr) (fL : FineT L) (fR : FineT R) (hlc : nl ≤ cl) (hcr : nr ≤ cr) (hS : TextAt w la L) (hT : TextAt w ra R) (hC : ChargesAt w b b0 b2)
    (hGl : T.length = t) (hcov : coversM (nl + 1) (nr + 1) T = true) (hG : GridAt w ta T) :
    Calls Try.prog 66 #[.agg #[.slice la nl cl, .int .u8 0, .int .i64 0, .slice ra nr cr, .int .u8 1, .int .i64 0, .slice (some ⟨b, 0, none⟩) 3 3], .slice ta t tc, .int .i64 cost] w fun e w' => e = .returned (.bool (provesB L R (gridF T) nl nr cost)) ∧ Below w.heap.size w w' := by
  obtain ⟨F, hFw⟩ : ∃ F, F = Fence.wide := ⟨_, rfl⟩
  have hF : ∀ f, F.fn f := fun f => by rw [hFw]; exact trivial
  have hro : F.round = none := by rw [hFw]; rfl
  have hd : F.depth = none := by rw [hFw]; rfl
  have hc : ∀ {n : Nat} {f args w R}, Calls Try.prog f args w R → CallsIn F n Try.prog f args w R := fun h => by rw [hFw]; exact callsIn_wide.2 h
  suffices h : CallsIn F 9 Try.prog 66 #[.agg #[.slice la nl cl, .int .u8 0, .int .i64 0, .slice ra nr cr, .int .u8 1, .int .i64 0, .slice (some ⟨b, 0, none⟩) 3 3], .slice ta t tc, .int .i64 cost] w fun e w' => e = .returned (.bool (provesB L R (gridF T) nl nr cost)) ∧ Below w.heap.size w w' by
    rw [hFw] at h; exact callsIn_wide.1 h
  clear hFw
  obtain ⟨n, hn⟩ : ∃ n, n = 9 := ⟨_, rfl⟩
  rw [← hn]
  have hn3 : 8 ≤ n := by omega
  have h1 : 1 ≤ n := by omega
  clear hn
  have hnl : nl ≤ 1000 := by rw [← hL]; exact fL.1
  have hnr : nr ≤ 1000 := by rw [← hR]; exact fR.1
  have hcv : t = nl + 1 ∧ ∀ i, i < t → (T.getD i []).length = nr + 1 ∧ ∀ k, k < nr + 1 → 0 ≤ gridF T i k ∧ gridF T i k ≤ 100000 := by
    unfold coversM at hcov
    rw [Bool.and_eq_true, decide_eq_true_eq, List.all_eq_true] at hcov
    refine ⟨by omega, fun i hi => ?_⟩
    have hmem : T.getD i [] ∈ T := by
      rw [List.getD_eq_getElem?_getD, List.getElem?_eq_getElem (by omega)]
      exact List.getElem_mem _
    have h2 := hcov.2 _ hmem
    unfold okRow at h2
    rw [Bool.and_eq_true, decide_eq_true_eq, List.all_eq_true] at h2
    refine ⟨h2.1, fun k hk => ?_⟩
    have h3 := h2.2 _ (mem_getD (M := T.getD i []) (i := k) (by omega))
    unfold okN inB at h3
    rw [decide_eq_true_eq] at h3
    exact h3
  have hnum : ∀ (i k : Nat) W tb, i ≤ nl → k ≤ nr → Below w.heap.size w W → W.cell? ⟨tb, 0, none⟩ = some (.slice ta t tc) → Calls Try.prog 93 #[.agg #[.int .i64 (i : Int), .int .i64 (k : Int)], .pointer (some ⟨tb, 0, none⟩)] W fun e w' => e = .returned (.int .i64 (gridF T i k)) ∧ Below W.heap.size W w' := fun i k W tb hi hk hb hcell =>
    number_any T i k t tc (nr + 1) tb ta W hcell (hG.grown hb) hGl (by omega) (hcv.2 i (by omega)).1 (by omega) (by omega) (by omega)
  have HNB : Hid (∀ i k, i ≤ nl → k ≤ nr → 0 ≤ gridF T i k ∧ gridF T i k ≤ 100000) := hid (fun i k hi hk => (hcv.2 i (by omega)).2 k (by omega))
  have HRF : Hid (∀ x s, x ∈ placesM nl nr → s ∈ movesM nl nr x.1 x.2 → okStep L R (gridF T) x.1 x.2 s = false → rightB L R (gridF T) nl nr = false) := hid (fun x s h1 h2 h3 => rightB_false h1 h2 h3)
  have HPB : Hid (provesB L R (gridF T) nl nr cost = (rightB L R (gridF T) nl nr && (decide (gridF T 0 0 = 0) && decide (gridF T nl nr = cost)))) := hid rfl
  obtain ⟨f, hf⟩ : ∃ f, f = gridF T := ⟨_, rfl⟩
  rw [← hf] at hnum HNB HRF HPB ⊢
  clear hf hG hcov hGl hcv
  refine callsIn_of_wp_marks Try.func66 rfl (hF _) ?_ hro
  simp only [Try.ntmps66, List.size_toArray, List.length_cons, List.length_nil, Nat.reduceAdd, Nat.reduceSub, Array.replicate_succ, Array.replicate_zero, List.push_toArray, List.append_toArray, List.nil_append, List.cons_append]
  gi_wp2_with (gi_at_call 94; refine (hc (places_make (.slice la nl cl) (.int .u8 0) (.int .i64 0) (.slice ra nr cr) (.int .u8 1) (.int .i64 0) (.slice (some ⟨b, 0, none⟩) 3 3) _)).mono ?_; rintro e w' ⟨rfl, rfl⟩)
  obtain ⟨W1, hW1⟩ : ∃ X, X = ((((w.alloc (.cells #[.slice la nl cl, .int .u8 0, .int .i64 0, .slice ra nr cr, .int .u8 1, .int .i64 0, .slice (some ⟨b, 0, none⟩) 3 3] 119)).alloc (.cells #[.slice ta t tc] 52)).alloc (.cells #[.bool false] 4)).alloc (.cells #[.func (.func 93) #[] #[.pointer (some ⟨w.heap.size + 1, 0, none⟩)]] 165)).alloc (.cells #[.slice la nl cl, .int .u8 0, .int .i64 0, .slice ra nr cr, .int .u8 1, .int .i64 0, .slice (some ⟨b, 0, none⟩) 3 3] 119) := ⟨_, rfl⟩
  have hB1 : Below w.heap.size w W1 := by rw [hW1]; exact (((((Below.refl _ w).alloc (Nat.le_refl _) _).alloc (by simp) _).alloc (by simp; omega) _).alloc (by simp; omega) _).alloc (by simp; omega) _
  have s1 : W1.heap.size = w.heap.size + 5 := by rw [hW1]; simp
  have p0 : W1.cell? ⟨w.heap.size, 0, none⟩ = some (.slice la nl cl) := by rw [hW1]; simp [go_sem]
  have p1 : W1.cell? ⟨w.heap.size, 1, none⟩ = some (.int .u8 0) := by rw [hW1]; simp [go_sem]
  have p2 : W1.cell? ⟨w.heap.size, 2, none⟩ = some (.int .i64 0) := by rw [hW1]; simp [go_sem]
  have p3 : W1.cell? ⟨w.heap.size, 3, none⟩ = some (.slice ra nr cr) := by rw [hW1]; simp [go_sem]
  have p4 : W1.cell? ⟨w.heap.size, 4, none⟩ = some (.int .u8 1) := by rw [hW1]; simp [go_sem]
  have p5 : W1.cell? ⟨w.heap.size, 5, none⟩ = some (.int .i64 0) := by rw [hW1]; simp [go_sem]
  have p6 : W1.cell? ⟨w.heap.size, 6, none⟩ = some (.slice (some ⟨b, 0, none⟩) 3 3) := by rw [hW1]; simp [go_sem]
  have ht : W1.cell? ⟨w.heap.size + 1, 0, none⟩ = some (.slice ta t tc) := by rw [hW1]; simp [go_sem]
  have hcl : W1.cell? ⟨w.heap.size + 1 + 1 + 1, 0, none⟩ = some (.func (.func 93) #[] #[.pointer (some ⟨w.heap.size + 1, 0, none⟩)]) := by rw [hW1]; simp [go_sem]
  have q0 : W1.cell? ⟨w.heap.size + 1 + 1 + 1 + 1, 0, none⟩ = some (.slice la nl cl) := by rw [hW1]; simp [go_sem]
  have q1 : W1.cell? ⟨w.heap.size + 1 + 1 + 1 + 1, 1, none⟩ = some (.int .u8 0) := by rw [hW1]; simp [go_sem]
  have q2 : W1.cell? ⟨w.heap.size + 1 + 1 + 1 + 1, 2, none⟩ = some (.int .i64 0) := by rw [hW1]; simp [go_sem]
  have q3 : W1.cell? ⟨w.heap.size + 1 + 1 + 1 + 1, 3, none⟩ = some (.slice ra nr cr) := by rw [hW1]; simp [go_sem]
  have q4 : W1.cell? ⟨w.heap.size + 1 + 1 + 1 + 1, 4, none⟩ = some (.int .u8 1) := by rw [hW1]; simp [go_sem]
  have q5 : W1.cell? ⟨w.heap.size + 1 + 1 + 1 + 1, 5, none⟩ = some (.int .i64 0) := by rw [hW1]; simp [go_sem]
  have q6 : W1.cell? ⟨w.heap.size + 1 + 1 + 1 + 1, 6, none⟩ = some (.slice (some ⟨b, 0, none⟩) 3 3) := by rw [hW1]; simp [go_sem]
  have hrow : W1.rowIs (w.heap.size + 1 + 1) 4 1 (fun _ => .bool false) := by
    rw [hW1]
    have h := World.rowIs_alloc ((w.alloc (.cells #[.slice la nl cl, .int .u8 0, .int .i64 0, .slice ra nr cr, .int .u8 1, .int .i64 0, .slice (some ⟨b, 0, none⟩) 3 3] 119)).alloc (.cells #[.slice ta t tc] 52)) #[.bool false] 4 (fun _ => .bool false) (fun i hi => by
      have h : i < 1 := hi
      iterate 1 (rcases i with _ | i; · rfl)
      omega)
    simp only [World.size_alloc] at h
    exact (h.alloc _).alloc _
  rw [← hW1]
  clear hW1
  let PB : World → Prop := fun X => X.cell? ⟨w.heap.size, 0, none⟩ = some (.slice la nl cl) ∧ X.cell? ⟨w.heap.size, 1, none⟩ = some (.int .u8 0) ∧ X.cell? ⟨w.heap.size, 2, none⟩ = some (.int .i64 0) ∧ X.cell? ⟨w.heap.size, 3, none⟩ = some (.slice ra nr cr) ∧ X.cell? ⟨w.heap.size, 4, none⟩ = some (.int .u8 1) ∧ X.cell? ⟨w.heap.size, 5, none⟩ = some (.int .i64 0) ∧ X.cell? ⟨w.heap.size, 6, none⟩ = some (.slice (some ⟨b, 0, none⟩) 3 3)
  let I : List (Nat × Nat) → World → Prop := fun pre X => PB X ∧ X.cell? ⟨w.heap.size + 1, 0, none⟩ = some (.slice ta t tc) ∧ X.rowIs (w.heap.size + 1 + 1) 4 1 (fun _ => .bool false) ∧ X.cell? ⟨w.heap.size + 1 + 1 + 1, 0, none⟩ = some (.func (.func 93) #[] #[.pointer (some ⟨w.heap.size + 1, 0, none⟩)]) ∧ (∀ x ∈ pre, okPlace L R f nl nr x = true) ∧ Below w.heap.size w X
  let Ix : Code → List (Nat × Nat) → World → Prop := fun c pre X => c = .ret ∧ rightB L R f nl nr = false ∧ X.rowIs (w.heap.size + 1 + 1) 4 1 (fun _ => .bool false) ∧ Below w.heap.size w X
  have hPB : ∀ (A A' : World) (row : Option Nat), PB A → A.grownBy A' row → (∀ r, row = some r → ∃ o : Obj, A.heap[r]? = some o ∧ o.isCells = false) → PB A' := fun A A' row h hg hr =>
    ⟨Go.cell_kept h.1 hg hr, Go.cell_kept h.2.1 hg hr, Go.cell_kept h.2.2.1 hg hr, Go.cell_kept h.2.2.2.1 hg hr, Go.cell_kept h.2.2.2.2.1 hg hr, Go.cell_kept h.2.2.2.2.2.1 hg hr, Go.cell_kept h.2.2.2.2.2.2 hg hr⟩
  have hI : OwnFrom W1.heap.size I := fun s A A' row hs hg hr => by
    have hr' : ∀ r, row = some r → ∃ o : Obj, A.heap[r]? = some o ∧ o.isCells = false := fun r e => (hr r e).2
    have hne : ∀ r, row = some r → W1.heap.size ≤ r := fun r e => (hr r e).1
    obtain ⟨e1, e2, e3, e4, e5, e6⟩ := hs
    exact ⟨hPB _ _ _ e1 hg hr', Go.cell_kept e2 hg hr', row_kept e3 hg hr', Go.cell_kept e4 hg hr', e5, e6.grown hg e6.size (fun r e => by have := hne r e; omega)⟩
  have hIx : ∀ c, OwnFrom W1.heap.size (Ix c) := fun c s A A' row hs hg hr => by
    have hr' : ∀ r, row = some r → ∃ o : Obj, A.heap[r]? = some o ∧ o.isCells = false := fun r e => (hr r e).2
    have hne : ∀ r, row = some r → W1.heap.size ≤ r := fun r e => (hr r e).1
    obtain ⟨e1, e2, e3, e4⟩ := hs
    exact ⟨e1, e2, row_kept e3 hg hr', e4.grown hg e4.size (fun r e => by have := hne r e; omega)⟩
  have hM : MineOk W1.heap.size I (fun _ k => k = w.heap.size + 1 + 1) := ⟨fun s X k hs hk => by rw [hk]; exact hs.2.2.1.lt, fun _ _ _ _ _ _ _ _ h => h⟩
  refine rangeO hro h1 (gf := 123) (lb := #[.pointer (some ⟨w.heap.size + 1 + 1 + 1 + 1, 0, none⟩)]) rfl (hF _) (enters_of Try.func123 (by kernel_rfl) rfl)
    (places_seq hF hro hd hc (by omega) (w.heap.size + 1 + 1 + 1 + 1) nl cl nr cr 3 3 la ra (some ⟨b, 0, none⟩) hnl hnr W1 q0 q1 q2 q3 q4 q5 q6) (Below.refl _ _) (fun _ => rfl) I Ix hI hIx
    (fun _ k => k = w.heap.size + 1 + 1) hM (fun k hk => by omega) ⟨⟨p0, p1, p2, p3, p4, p5, p6⟩, ht, hrow, hcl, fun _ h => (by cases h), hB1⟩
    (fun x a' X => ∃ Bx, W1.heap.size ≤ Bx ∧ X.cell? ⟨Bx, 0, none⟩ = some (.int .i64 (x.1 : Int)) ∧ X.cell? ⟨Bx, 1, none⟩ = some (.int .i64 (x.2 : Int)) ∧
      a' = { tmps := #[.agg #[.slice la nl cl, .int .u8 0, .int .i64 0, .slice ra nr cr, .int .u8 1, .int .i64 0, .slice (some ⟨b, 0, none⟩) 3 3], .slice ta t tc, .int .i64 cost, .pointer (some ⟨w.heap.size, 0, none⟩), .pointer (some ⟨w.heap.size + 1, 0, none⟩), undef, .pointer (some ⟨w.heap.size + 1 + 1, 0, none⟩), .pointer (some ⟨w.heap.size + 1 + 1 + 1, 0, none⟩), .pointer (some ⟨Bx, 0, none⟩), undef, .func (.func 93) #[] #[.pointer (some ⟨w.heap.size + 1, 0, none⟩)], .agg #[.slice la nl cl, .int .u8 0, .int .i64 0, .slice ra nr cr, .int .u8 1, .int .i64 0, .slice (some ⟨b, 0, none⟩) 3 3], .func (.func 123) #[] #[.pointer (some ⟨w.heap.size + 1 + 1 + 1 + 1, 0, none⟩)], .agg #[.int .i64 (x.1 : Int), .int .i64 (x.2 : Int)], undef, undef, undef, undef, undef, undef, undef, undef, undef, undef, undef, undef, undef, undef, undef, undef, undef, undef, undef, undef, undef, undef, undef, undef, undef, undef, undef, undef], defers := [] })
    ?hAx ?assign ?body ?done ?stop
  case hAx =>
    rintro x a' s A A' row ⟨Bx, h0, h1, h2, e⟩ hg hr
    exact ⟨Bx, h0, Go.cell_kept h1 hg (fun r e => (hr r e).2), Go.cell_kept h2 hg (fun r e => (hr r e).2), e⟩
  case assign =>
    intro l pre x X K hi hX hK
    dsimp only [encPlace]
    gi_wp2
    exact hK _ (X.alloc (.cells #[.int .i64 (x.1 : Int), .int .i64 (x.2 : Int)] 150)) ((KeepsOthers.alloc _ _).from _) (hM.alloc hi _) (OwnFrom.alloc hI _ hi) ⟨X.heap.size, hX, by rw [World.cell?_alloc_new]; rfl, by rw [World.cell?_alloc_new]; rfl, rfl⟩
  case stop =>
    rintro D c pre X hD hpre ⟨rfl, hrf, hrow, hb⟩ hK
    gi_wp2
    refine ⟨by simp, .inl ⟨_, _, rfl, run_takeDeferred hK, ?_⟩⟩
    have hg := grownBy_putObj' X D (.deferred none)
    have hrr : ∀ r, (some D) = some r → ∃ o : Obj, X.heap[r]? = some o ∧ o.isCells = false := fun r e => by cases e; exact ⟨_, hK, rfl⟩
    have r2 := row_kept hrow hg hrr
    have hbz := hb.grown hg hb.size (fun r e => by cases e; omega)
    generalize X.putObj D (.deferred none) = WF at r2 hbz ⊢
    have zb : WF.cell? ⟨w.heap.size + 1 + 1, 0, none⟩ = some (.bool false) := r2.cell (i := 0) (by decide)
    refine ⟨.bool false, by simp [results, Try.f66, go_sem, zb], ?_, hbz⟩
    rw [HPB.out, hrf]
    rfl
  case body =>
    rintro l pre ⟨i, k⟩ rest a' X hxs hX hl ⟨r, hr⟩ ⟨⟨p0, p1, p2, p3, p4, p5, p6⟩, ht, hrow, hcl, hall, hB⟩ ⟨Bx, hBx, x0, x1, rfl⟩
    simp only at x0 x1
    have HXS := hid (place_before hxs)
    have HXM : Hid ((i, k) ∈ placesM nl nr) := hid (by rw [hxs]; simp)
    clear hxs q0 q1 q2 q3 q4 q5 q6
    have gx := lt_of_cell x0
    have gp := lt_of_cell p0
    gi_wp2_with (gi_at_call 80; refine (CallsIn.inRound l (hc (next_make (.slice la nl cl) (.int .u8 0) (.int .i64 0) (.slice ra nr cr) (.int .u8 1) (.int .i64 0) (.slice (some ⟨b, 0, none⟩) 3 3) (.int .i64 (i : Int)) (.int .i64 (k : Int)) _))).mono ?_; rintro e w' ⟨rfl, rfl⟩)
    obtain ⟨cb, hcb⟩ : ∃ c, c = X.heap.size := ⟨_, rfl⟩
    obtain ⟨W2, hW2⟩ : ∃ Y, Y = (X.alloc (.cells #[.slice la nl cl, .int .u8 0, .int .i64 0, .slice ra nr cr, .int .u8 1, .int .i64 0, .slice (some ⟨b, 0, none⟩) 3 3] 119)).alloc (.cells #[.int .i64 (i : Int), .int .i64 (k : Int)] 150) := ⟨_, rfl⟩
    have hB2 : Below X.heap.size X W2 := by rw [hW2]; exact ((Below.refl _ X).alloc (Nat.le_refl _) _).alloc (by simp) _
    have s2 : W2.heap.size = cb + 2 := by rw [hW2, hcb]; simp
    have y0 : W2.cell? ⟨cb, 0, none⟩ = some (.slice la nl cl) := by rw [hW2, hcb]; simp [go_sem]
    have y1 : W2.cell? ⟨cb, 1, none⟩ = some (.int .u8 0) := by rw [hW2, hcb]; simp [go_sem]
    have y2 : W2.cell? ⟨cb, 2, none⟩ = some (.int .i64 0) := by rw [hW2, hcb]; simp [go_sem]
    have y3 : W2.cell? ⟨cb, 3, none⟩ = some (.slice ra nr cr) := by rw [hW2, hcb]; simp [go_sem]
    have y4 : W2.cell? ⟨cb, 4, none⟩ = some (.int .u8 1) := by rw [hW2, hcb]; simp [go_sem]
    have y5 : W2.cell? ⟨cb, 5, none⟩ = some (.int .i64 0) := by rw [hW2, hcb]; simp [go_sem]
    have y6 : W2.cell? ⟨cb, 6, none⟩ = some (.slice (some ⟨b, 0, none⟩) 3 3) := by rw [hW2, hcb]; simp [go_sem]
    have ya : W2.cell? ⟨cb + 1, 0, none⟩ = some (.int .i64 (i : Int)) := by rw [hW2, hcb]; simp [go_sem]
    have yb : W2.cell? ⟨cb + 1, 1, none⟩ = some (.int .i64 (k : Int)) := by rw [hW2, hcb]; simp [go_sem]
    have hkf2 : KeepsFrom W1.heap.size X W2 := by rw [hW2]; exact ((KeepsOthers.alloc _ _).trans (KeepsOthers.alloc _ _)).from _
    have hk2 : Keep (fun _ k => k = w.heap.size + 1 + 1) X W2 := ⟨hB2.size, fun j hj _ => hB2.block j hj, fun _ _ h => h⟩
    rw [← hW2, ← hcb]
    clear hW2
    have HCB := hid hcb
    have cbs : w.heap.size + 5 ≤ cb := by omega
    have cbx : Bx < cb := by omega
    have cW : W1.heap.size ≤ cb := by omega
    have zB2 : cb + 2 ≤ W2.heap.size := by omega
    clear hcb s2
    let I2 : List (Nat × Nat) → World → Prop := fun pre2 Y => PB Y ∧ Y.cell? ⟨w.heap.size + 1, 0, none⟩ = some (.slice ta t tc) ∧ Y.rowIs (w.heap.size + 1 + 1) 4 1 (fun _ => .bool false) ∧ Y.cell? ⟨w.heap.size + 1 + 1 + 1, 0, none⟩ = some (.func (.func 93) #[] #[.pointer (some ⟨w.heap.size + 1, 0, none⟩)]) ∧ (Y.cell? ⟨Bx, 0, none⟩ = some (.int .i64 (i : Int)) ∧ Y.cell? ⟨Bx, 1, none⟩ = some (.int .i64 (k : Int))) ∧ (∀ s ∈ pre2, okStep L R f i k s = true) ∧ Below w.heap.size w Y ∧ KeepsFrom W1.heap.size X Y ∧ Keep (fun _ k => k = w.heap.size + 1 + 1) X Y
    let Ix2 : Code → List (Nat × Nat) → World → Prop := fun c pre2 Y => c = .ret ∧ rightB L R f nl nr = false ∧ Y.rowIs (w.heap.size + 1 + 1) 4 1 (fun _ => .bool false) ∧ Below w.heap.size w Y ∧ KeepsFrom W1.heap.size X Y ∧ KeepC (fun _ k => k = w.heap.size + 1 + 1) X Y
    have hI2 : OwnFrom W2.heap.size I2 := fun s A A' row hs hg hr => by
      have hr' : ∀ r, row = some r → ∃ o : Obj, A.heap[r]? = some o ∧ o.isCells = false := fun r e => (hr r e).2
      have hne : ∀ r, row = some r → cb + 2 ≤ r := fun r e => by have := (hr r e).1; omega
      obtain ⟨e1, e2, e3, e4, e5, e6, e7, e8, e9⟩ := hs
      refine ⟨hPB _ _ _ e1 hg hr', Go.cell_kept e2 hg hr', row_kept e3 hg hr', Go.cell_kept e4 hg hr', ⟨Go.cell_kept e5.1 hg hr', Go.cell_kept e5.2 hg hr'⟩, e6, e7.grown hg e7.size (fun r e => by have := hne r e; omega), (ownFrom_keepsFrom (β := Unit) (B := W1.heap.size) (B' := W2.heap.size) (w₀ := X) hB2.size) () A A' row e8 hg hr,
        ⟨Nat.le_trans e9.size hg.size, fun j hj hj2 => (hg.block j (Nat.lt_of_lt_of_le hj e9.size) (fun e => ?_)).trans (e9.same j hj hj2), fun _ _ h => h⟩⟩
      have := hne _ e.symm; have := HCB.out; omega
    have hIx2 : ∀ c, OwnFrom W2.heap.size (Ix2 c) := fun c s A A' row hs hg hr => by
      have hr' : ∀ r, row = some r → ∃ o : Obj, A.heap[r]? = some o ∧ o.isCells = false := fun r e => (hr r e).2
      have hne : ∀ r, row = some r → cb + 2 ≤ r := fun r e => by have := (hr r e).1; omega
      obtain ⟨e1, e2, e3, e4, e5, e6⟩ := hs
      exact ⟨e1, e2, row_kept e3 hg hr', e4.grown hg e4.size (fun r e => by have := hne r e; omega), (ownFrom_keepsFrom (β := Unit) (B := W1.heap.size) (B' := W2.heap.size) (w₀ := X) hB2.size) () A A' row e5 hg hr, fun bb o u h h' => Go.cell_kept (e6 bb o u h h') hg hr'⟩
    have hM2 : MineOk W2.heap.size I2 (fun _ k => k = w.heap.size + 1 + 1) := ⟨fun s Y j hs hj => by rw [hj]; exact hs.2.2.1.lt, fun _ _ _ _ _ _ _ _ h => h⟩
    have hr2 : W2.heap[l]? = some (.loop r) := (hB2.block l (Array.getElem?_eq_some_iff.1 hr).1).trans hr
    refine rangeN (l₀ := l) (r₀ := r) rfl hr2 (by omega) (gf := 112) (lb := #[.pointer (some ⟨cb, 0, none⟩), .pointer (some ⟨cb + 1, 0, none⟩)]) rfl (hF _) (enters_of Try.func112 (by kernel_rfl) rfl)
      ((next_seq hF hro hd hc (by omega) cb (cb + 1) nl cl nr cr i k 3 3 la ra (some ⟨b, 0, none⟩) hnl hnr hlc hcr (by have := HXS.out; omega) (by have := HXS.out; omega) W2 y0 y1 y2 y3 y4 y5 y6 ya yb).inRound l) (Below.refl _ _) (fun _ => rfl) I2 Ix2 hI2 hIx2
      (fun _ k => k = w.heap.size + 1 + 1) hM2 (fun j hj => by omega) ⟨⟨cell_grown hB2 p0, cell_grown hB2 p1, cell_grown hB2 p2, cell_grown hB2 p3, cell_grown hB2 p4, cell_grown hB2 p5, cell_grown hB2 p6⟩, cell_grown hB2 ht, row_kept hrow (grown_none hB2) (fun r e => by cases e), cell_grown hB2 hcl, ⟨cell_grown hB2 x0, cell_grown hB2 x1⟩, fun _ h => (by cases h), hB.trans (hB2.mono hB.size), hkf2, hk2⟩
      (fun s a' Y => ∃ Bm, ¬ (Bm = w.heap.size + 1 + 1) ∧ (Y.cell? ⟨Bm, 0, none⟩ = some (.int .i64 (s.1 : Int)) ∧ Y.cell? ⟨Bm, 1, none⟩ = some (.int .i64 (s.2 : Int)) ∧ Y.cell? ⟨Bm, 2, none⟩ = some (.slice (subA la cl i 2) s.1 (cl - i)) ∧ Y.cell? ⟨Bm, 3, none⟩ = some (.int .u8 0) ∧ Y.cell? ⟨Bm, 4, none⟩ = some (.int .i64 (i : Int)) ∧ Y.cell? ⟨Bm, 5, none⟩ = some (.slice (subA ra cr k 2) s.2 (cr - k)) ∧ Y.cell? ⟨Bm, 6, none⟩ = some (.int .u8 1) ∧ Y.cell? ⟨Bm, 7, none⟩ = some (.int .i64 (k : Int))) ∧
        a' = { tmps := #[.agg #[.slice la nl cl, .int .u8 0, .int .i64 0, .slice ra nr cr, .int .u8 1, .int .i64 0, .slice (some ⟨b, 0, none⟩) 3 3], .slice ta t tc, .int .i64 cost, .pointer (some ⟨w.heap.size, 0, none⟩), .pointer (some ⟨w.heap.size + 1, 0, none⟩), undef, .pointer (some ⟨w.heap.size + 1 + 1, 0, none⟩), .pointer (some ⟨w.heap.size + 1 + 1 + 1, 0, none⟩), .pointer (some ⟨Bx, 0, none⟩), .pointer (some ⟨Bm, 0, none⟩), .func (.func 93) #[] #[.pointer (some ⟨w.heap.size + 1, 0, none⟩)], .agg #[.slice la nl cl, .int .u8 0, .int .i64 0, .slice ra nr cr, .int .u8 1, .int .i64 0, .slice (some ⟨b, 0, none⟩) 3 3], .func (.func 123) #[] #[.pointer (some ⟨w.heap.size + 1 + 1 + 1 + 1, 0, none⟩)], .agg #[.int .i64 (i : Int), .int .i64 (k : Int)], .agg #[.slice la nl cl, .int .u8 0, .int .i64 0, .slice ra nr cr, .int .u8 1, .int .i64 0, .slice (some ⟨b, 0, none⟩) 3 3], .agg #[.int .i64 (i : Int), .int .i64 (k : Int)], .func (.func 112) #[] #[.pointer (some ⟨cb, 0, none⟩), .pointer (some ⟨cb + 1, 0, none⟩)], .agg #[.int .i64 (s.1 : Int), .int .i64 (s.2 : Int), .slice (subA la cl i 2) s.1 (cl - i), .int .u8 0, .int .i64 (i : Int), .slice (subA ra cr k 2) s.2 (cr - k), .int .u8 1, .int .i64 (k : Int)], undef, undef, undef, undef, undef, undef, undef, undef, undef, undef, undef, undef, undef, undef, undef, undef, undef, undef, undef, undef, undef, undef, undef, undef], defers := [] })
      ?hAx2 ?assign2 ?body2 ?done2 ?stop2
    case hAx2 =>
      rintro s a' u A A' row ⟨Bm, hm, ⟨c0, c1, c2, c3, c4, c5, c6, c7⟩, e⟩ hg hr
      have hr' : ∀ r, row = some r → ∃ o : Obj, A.heap[r]? = some o ∧ o.isCells = false := fun r e => (hr r e).2
      exact ⟨Bm, hm, ⟨Go.cell_kept c0 hg hr', Go.cell_kept c1 hg hr', Go.cell_kept c2 hg hr', Go.cell_kept c3 hg hr', Go.cell_kept c4 hg hr', Go.cell_kept c5 hg hr', Go.cell_kept c6 hg hr', Go.cell_kept c7 hg hr'⟩, e⟩
    case assign2 =>
      intro l2 pre2 s Y K hi hY hK
      dsimp only [encMove]
      gi_wp2
      exact hK _ (Y.alloc (.cells #[.int .i64 (s.1 : Int), .int .i64 (s.2 : Int), .slice (subA la cl i 2) s.1 (cl - i), .int .u8 0, .int .i64 (i : Int), .slice (subA ra cr k 2) s.2 (cr - k), .int .u8 1, .int .i64 (k : Int)] 155)) ((KeepsOthers.alloc _ _).from _) (hM2.alloc hi _) (OwnFrom.alloc hI2 _ hi) ⟨Y.heap.size, by omega, ⟨by rw [World.cell?_alloc_new]; rfl, by rw [World.cell?_alloc_new]; rfl, by rw [World.cell?_alloc_new]; rfl, by rw [World.cell?_alloc_new]; rfl, by rw [World.cell?_alloc_new]; rfl, by rw [World.cell?_alloc_new]; rfl, by rw [World.cell?_alloc_new]; rfl, by rw [World.cell?_alloc_new]; rfl⟩, rfl⟩
    case stop2 =>
      rintro c q Y hq ⟨rfl, hrf, hrow, hb, hkf, hkc⟩
      gi_wp2
      exact ⟨hkf, hkc, rfl, hrf, hrow, hb⟩
    case done2 =>
      rintro Y ⟨e1, e2, e3, e4, e5, e6, e7, e8, e9⟩
      gi_wp2_with fail
      refine ⟨e8, e9, e1, e2, e3, e4, fun x hx => ?_, e7⟩
      rcases List.mem_append.1 hx with h | h
      · exact hall x h
      · rw [List.mem_singleton] at h
        rw [h]
        unfold okPlace
        rw [List.all_eq_true]
        exact e6
    case body2 =>
      rintro l2 pre2 ⟨s1, s2⟩ rest2 a2 Y hxs2 hY hl2 ⟨r2, hr2'⟩ hi2 ⟨Bm, hBm, ⟨c0, c1, c2, c3, c4, c5, c6, c7⟩, rfl⟩
      obtain ⟨⟨p0, p1, p2, p3, p4, p5, p6⟩, ht, hrow, hcl, ⟨x0, x1⟩, hok, hb, hkf, hkp⟩ := id hi2
      simp only at c0 c1 c2 c3 c4 c5 c6 c7
      have hsm : (s1, s2) ∈ movesM nl nr i k := by rw [hxs2]; simp
      have hmv := mem_moves hsm
      simp only at hmv
      obtain ⟨m1, m2, m3, m4, m5⟩ := hmv
      have hprice : ∀ Z, Below Y.heap.size Y Z → CallsIn F (n - 1 - 1 - 1 - 1 - 1) Try.prog 81 #[.agg #[.slice la nl cl, .int .u8 0, .int .i64 0, .slice ra nr cr, .int .u8 1, .int .i64 0, .slice (some ⟨b, 0, none⟩) 3 3], .agg #[.int .i64 (s1 : Int), .int .i64 (s2 : Int), .slice (subA la cl i 2) s1 (cl - i), .int .u8 0, .int .i64 (i : Int), .slice (subA ra cr k 2) s2 (cr - k), .int .u8 1, .int .i64 (k : Int)]] Z fun e w' => e = .returned (.int .i64 (priceAt L R i k (s1, s2) : Nat)) ∧ Below Z.heap.size Z w' := fun Z hZ => hc (by
        have hbz := hb.trans (hZ.mono hb.size)
        exact price_any ((L.drop i).take s1) ((R.drop k).take s2) s1 s2 0 1 0 1 s1 (cl - i) s2 (cr - k) b b0 b2 nl cl nr cr i k 0 0 (subA la cl i 2) (subA ra cr k 2) la ra Z m4 m5 (by simp; omega) (by simp; omega) (fL.part _ _) (fR.part _ _) ((hS.grown hbz).part hL hlc i s1 m1) ((hT.grown hbz).part hR hcr k s2 m2) (hC.grown hbz))
      obtain ⟨iu, hiu⟩ : ∃ u, u = i + s1 := ⟨_, rfl⟩
      obtain ⟨ku, hku⟩ : ∃ u, u = k + s2 := ⟨_, rfl⟩
      have hbehind : ∀ Z, CallsIn F (n - 1 - 1 - 1 - 1 - 1) Try.prog 82 #[.agg #[.int .i64 (s1 : Int), .int .i64 (s2 : Int), .slice (subA la cl i 2) s1 (cl - i), .int .u8 0, .int .i64 (i : Int), .slice (subA ra cr k 2) s2 (cr - k), .int .u8 1, .int .i64 (k : Int)]] Z fun e w' => e = .returned (.agg #[.int .i64 (iu : Int), .int .i64 (ku : Int)]) ∧ Below Z.heap.size Z w' := fun Z => hc (by rw [hiu, hku]; exact behind_any s1 s2 0 1 s1 (cl - i) i s2 (cr - k) k (subA la cl i 2) (subA ra cr k 2) Z (by omega) (by omega) (by omega) (by omega))
      have hn1 : ∀ Z, Below Y.heap.size Y Z → CallsIn F (n - 1 - 1 - 1 - 1 - 1) Try.prog 93 #[.agg #[.int .i64 (iu : Int), .int .i64 (ku : Int)], .pointer (some ⟨w.heap.size + 1, 0, none⟩)] Z fun e w' => e = .returned (.int .i64 (f iu ku)) ∧ Below Z.heap.size Z w' := fun Z hZ => hc (hnum iu ku Z (w.heap.size + 1) (by omega) (by omega) (hb.trans (hZ.mono hb.size)) (cell_grown hZ ht))
      have hn2 : ∀ Z, Below Y.heap.size Y Z → CallsIn F (n - 1 - 1 - 1 - 1 - 1) Try.prog 93 #[.agg #[.int .i64 (i : Int), .int .i64 (k : Int)], .pointer (some ⟨w.heap.size + 1, 0, none⟩)] Z fun e w' => e = .returned (.int .i64 (f i k)) ∧ Below Z.heap.size Z w' := fun Z hZ => hc (hnum i k Z (w.heap.size + 1) (by have := HXS.out; omega) (by have := HXS.out; omega) (hb.trans (hZ.mono hb.size)) (cell_grown hZ ht))
      have HOK : Hid (okStep L R f i k (s1, s2) = decide (f iu ku ≤ f i k + (priceAt L R i k (s1, s2) : Int))) := hid (by rw [hiu, hku]; rfl)
      have HRF2 : Hid (okStep L R f i k (s1, s2) = false → rightB L R f nl nr = false) := hid (HRF.out (i, k) (s1, s2) HXM.out hsm)
      have hzb : priceAt L R i k (s1, s2) ≤ 2060 := priceM_le _ _ _ _
      have hfa := HNB.out iu ku (by omega) (by omega)
      have hfb := HNB.out i k (by have := HXS.out; omega) (by have := HXS.out; omega)
      generalize f iu ku = va at hn1 HOK hfa
      generalize f i k = vb at hn2 HOK hfb
      generalize priceAt L R i k (s1, s2) = z at hprice HOK hzb
      clear hiu hku hsm
      have hwr : IntKind.i64.wrap (vb + (z : Int)) = vb + (z : Int) := by rw [IntKind.wrap_i64]; omega
      have hb0 : Below Y.heap.size Y Y.drew := (Below.refl _ _).drew
      gi_wp2_with fail
      refine region_held (S := fun w' : World => w'.cell? ⟨w.heap.size, 0, none⟩ = some (.slice la nl cl) ∧ w'.cell? ⟨w.heap.size, 1, none⟩ = some (.int .u8 0) ∧ w'.cell? ⟨w.heap.size, 2, none⟩ = some (.int .i64 0) ∧ w'.cell? ⟨w.heap.size, 3, none⟩ = some (.slice ra nr cr) ∧ w'.cell? ⟨w.heap.size, 4, none⟩ = some (.int .u8 1) ∧ w'.cell? ⟨w.heap.size, 5, none⟩ = some (.int .i64 0) ∧ w'.cell? ⟨w.heap.size, 6, none⟩ = some (.slice (some ⟨b, 0, none⟩) 3 3) ∧ w'.cell? ⟨w.heap.size + 1 + 1 + 1, 0, none⟩ = some (.func (.func 93) #[] #[.pointer (some ⟨w.heap.size + 1, 0, none⟩)]) ∧ w'.cell? ⟨Bx, 0, none⟩ = some (.int .i64 (i : Int)) ∧ w'.cell? ⟨Bx, 1, none⟩ = some (.int .i64 (k : Int)) ∧ w'.cell? ⟨Bm, 0, none⟩ = some (.int .i64 (s1 : Int)) ∧ w'.cell? ⟨Bm, 1, none⟩ = some (.int .i64 (s2 : Int)) ∧ w'.cell? ⟨Bm, 2, none⟩ = some (.slice (subA la cl i 2) s1 (cl - i)) ∧ w'.cell? ⟨Bm, 3, none⟩ = some (.int .u8 0) ∧ w'.cell? ⟨Bm, 4, none⟩ = some (.int .i64 (i : Int)) ∧ w'.cell? ⟨Bm, 5, none⟩ = some (.slice (subA ra cr k 2) s2 (cr - k)) ∧ w'.cell? ⟨Bm, 6, none⟩ = some (.int .u8 1) ∧ w'.cell? ⟨Bm, 7, none⟩ = some (.int .i64 (k : Int))) (by kernel_rfl) ⟨cell_grown hb0 p0, cell_grown hb0 p1, cell_grown hb0 p2, cell_grown hb0 p3, cell_grown hb0 p4, cell_grown hb0 p5, cell_grown hb0 p6, cell_grown hb0 hcl, cell_grown hb0 x0, cell_grown hb0 x1, cell_grown hb0 c0, cell_grown hb0 c1, cell_grown hb0 c2, cell_grown hb0 c3, cell_grown hb0 c4, cell_grown hb0 c5, cell_grown hb0 c6, cell_grown hb0 c7⟩ (fun hHeld => ?_)
      refine held_take (i := 0) (v := ?_) (plain_of (by kernel_rfl)) rfl (by kernel_rfl) (by kernel_rfl) (by kernel_rfl) (fun _ _ _ h => h) (Or.inl ⟨by rfl, ?_⟩) (fun _ => rfl) (by assumption) ?_
      rotate_left 1
      · intro w hSw
        (try dsimp only at hSw)
        go_simp
        all_goals (with_reducible rfl)
      try simp only [Act.put, List.setIfInBounds_toArray, List.set_cons_zero, List.set_cons_succ]
      refine held_take (i := 1) (v := ?_) (plain_of (by kernel_rfl)) rfl (by kernel_rfl) (by kernel_rfl) (by kernel_rfl) (fun _ _ _ h => h) (Or.inl ⟨by rfl, ?_⟩) (fun _ => rfl) (by assumption) ?_
      rotate_left 1
      · intro w hSw
        (try dsimp only at hSw)
        go_simp
        all_goals (with_reducible rfl)
      try simp only [Act.put, List.setIfInBounds_toArray, List.set_cons_zero, List.set_cons_succ]
      refine held_take (i := 4) (v := ?_) (plain_of (by kernel_rfl)) rfl (by kernel_rfl) (by kernel_rfl) (by kernel_rfl) (fun _ _ _ h => h) (Or.inl ⟨by rfl, ?_⟩) (fun _ => rfl) (by assumption) ?_
      rotate_left 1
      · intro w hSw
        (try dsimp only at hSw)
        go_simp
        all_goals (with_reducible rfl)
      try simp only [Act.put, List.setIfInBounds_toArray, List.set_cons_zero, List.set_cons_succ]
      refine held_take (i := 5) (v := ?_) (plain_of (by kernel_rfl)) rfl (by kernel_rfl) (by kernel_rfl) (by kernel_rfl) (fun _ _ _ h => h) (Or.inl ⟨by rfl, ?_⟩) (fun _ => rfl) (by assumption) ?_
      rotate_left 1
      · intro w hSw
        (try dsimp only at hSw)
        go_simp
        all_goals (with_reducible rfl)
      try simp only [Act.put, List.setIfInBounds_toArray, List.set_cons_zero, List.set_cons_succ]
      refine held_take (i := 7) (v := ?_) (plain_of (by kernel_rfl)) rfl (by kernel_rfl) (by kernel_rfl) (by kernel_rfl) (fun _ _ _ h => h) (Or.inl ⟨by rfl, ?_⟩) (fun _ => rfl) (by assumption) ?_
      rotate_left 1
      · intro w hSw
        (try dsimp only at hSw)
        go_simp
        all_goals (with_reducible rfl)
      try simp only [Act.put, List.setIfInBounds_toArray, List.set_cons_zero, List.set_cons_succ]
      refine held_take (i := 8) (v := ?_) (plain_of (by kernel_rfl)) rfl (by kernel_rfl) (by kernel_rfl) (by kernel_rfl) (fun _ _ _ h => h) (Or.inl ⟨by rfl, ?_⟩) (fun _ => rfl) (by assumption) ?_
      rotate_left 1
      · intro w hSw
        (try dsimp only at hSw)
        go_simp
        all_goals (with_reducible rfl)
      try simp only [Act.put, List.setIfInBounds_toArray, List.set_cons_zero, List.set_cons_succ]
      refine held_one (i := 2) (by kernel_rfl) rfl (fun K hK => ?_)
      rw [if_pos (by rfl)]
      unfold Oper.wpIn
      refine ⟨fun f _ => hF f, ?_⟩
      go_simp
      refine (CallsIn.inRound l2 (CallsIn.inRound l (hbehind _))).mono ?_
      rintro e wp ⟨rfl, hbp⟩
      have hbA := below_then hb0 hbp
      clear hHeld hbp
      refine hK.out _ _ ?_ (fun hHeld => ?_)
      · exact ⟨cell_grown hbA p0, cell_grown hbA p1, cell_grown hbA p2, cell_grown hbA p3, cell_grown hbA p4, cell_grown hbA p5, cell_grown hbA p6, cell_grown hbA hcl, cell_grown hbA x0, cell_grown hbA x1, cell_grown hbA c0, cell_grown hbA c1, cell_grown hbA c2, cell_grown hbA c3, cell_grown hbA c4, cell_grown hbA c5, cell_grown hbA c6, cell_grown hbA c7⟩
      clear hK K
      try simp only [Act.put, List.setIfInBounds_toArray, List.set_cons_zero, List.set_cons_succ]
      refine held_one (i := 3) (by kernel_rfl) rfl (fun K hK => ?_)
      rw [if_pos (by rfl)]
      unfold Oper.wpIn
      refine ⟨fun f _ => hF f, ?_⟩
      go_simp
      refine (CallsIn.inRound l2 (CallsIn.inRound l (hn1 _ hbA))).mono ?_
      rintro e wp2 ⟨rfl, hbp⟩
      have hbB := below_then hbA hbp
      clear hHeld hbp
      refine hK.out _ _ ?_ (fun hHeld => ?_)
      · exact ⟨cell_grown hbB p0, cell_grown hbB p1, cell_grown hbB p2, cell_grown hbB p3, cell_grown hbB p4, cell_grown hbB p5, cell_grown hbB p6, cell_grown hbB hcl, cell_grown hbB x0, cell_grown hbB x1, cell_grown hbB c0, cell_grown hbB c1, cell_grown hbB c2, cell_grown hbB c3, cell_grown hbB c4, cell_grown hbB c5, cell_grown hbB c6, cell_grown hbB c7⟩
      clear hK K
      try simp only [Act.put, List.setIfInBounds_toArray, List.set_cons_zero, List.set_cons_succ]
      refine held_one (i := 6) (by kernel_rfl) rfl (fun K hK => ?_)
      rw [if_pos (by rfl)]
      unfold Oper.wpIn
      refine ⟨fun f _ => hF f, ?_⟩
      go_simp
      refine (CallsIn.inRound l2 (CallsIn.inRound l (hn2 _ hbB))).mono ?_
      rintro e wp3 ⟨rfl, hbp⟩
      have hbD := below_then hbB hbp
      clear hHeld hbp
      refine hK.out _ _ ?_ (fun hHeld => ?_)
      · exact ⟨cell_grown hbD p0, cell_grown hbD p1, cell_grown hbD p2, cell_grown hbD p3, cell_grown hbD p4, cell_grown hbD p5, cell_grown hbD p6, cell_grown hbD hcl, cell_grown hbD x0, cell_grown hbD x1, cell_grown hbD c0, cell_grown hbD c1, cell_grown hbD c2, cell_grown hbD c3, cell_grown hbD c4, cell_grown hbD c5, cell_grown hbD c6, cell_grown hbD c7⟩
      clear hK K
      try simp only [Act.put, List.setIfInBounds_toArray, List.set_cons_zero, List.set_cons_succ]
      refine held_one (i := 9) (by kernel_rfl) rfl (fun K hK => ?_)
      rw [if_pos (by rfl)]
      unfold Oper.wpIn
      refine ⟨fun f _ => hF f, ?_⟩
      go_simp
      refine (CallsIn.inRound l2 (CallsIn.inRound l (hprice _ hbD))).mono ?_
      rintro e wq ⟨rfl, hbp⟩
      have hbQ := below_then hbD hbp
      clear hHeld hbp
      refine hK.out _ _ ?_ (fun hHeld => ?_)
      · exact ⟨cell_grown hbQ p0, cell_grown hbQ p1, cell_grown hbQ p2, cell_grown hbQ p3, cell_grown hbQ p4, cell_grown hbQ p5, cell_grown hbQ p6, cell_grown hbQ hcl, cell_grown hbQ x0, cell_grown hbQ x1, cell_grown hbQ c0, cell_grown hbQ c1, cell_grown hbQ c2, cell_grown hbQ c3, cell_grown hbQ c4, cell_grown hbQ c5, cell_grown hbQ c6, cell_grown hbQ c7⟩
      clear hK K
      try simp only [Act.put, List.setIfInBounds_toArray, List.set_cons_zero, List.set_cons_succ]
      refine held_take (i := 10) (v := ?_) (plain_of (by kernel_rfl)) rfl (by kernel_rfl) (by kernel_rfl) (by kernel_rfl) (fun _ _ _ h => h) (Or.inl ⟨by rfl, ?_⟩) (fun _ => rfl) (by assumption) ?_
      rotate_left 1
      · intro w hSw
        (try dsimp only at hSw)
        go_simp
        all_goals (with_reducible rfl)
      try simp only [Act.put, List.setIfInBounds_toArray, List.set_cons_zero, List.set_cons_succ]
      refine held_take (i := 11) (v := ?_) (plain_of (by kernel_rfl)) rfl (by kernel_rfl) (by kernel_rfl) (by kernel_rfl) (fun _ _ _ h => h) (Or.inl ⟨by rfl, ?_⟩) (fun _ => rfl) (by assumption) ?_
      rotate_left 1
      · intro w hSw
        (try dsimp only at hSw)
        go_simp
        all_goals (with_reducible rfl)
      try simp only [Act.put, List.setIfInBounds_toArray, List.set_cons_zero, List.set_cons_succ]
      refine held_done (by kernel_rfl) ?_ _
      clear hHeld hprice hn1 hn2 hbehind hwr
      by_cases hgt : vb + (z : Int) < va
      · have hrf : rightB L R f nl nr = false := HRF2.out (by rw [HOK.out, decide_eq_false_iff_not]; omega)
        have HRFF := hid hrf
        clear hrf
        have hrowQ := row_kept hrow (grown_none hbQ) (fun r e => by cases e)
        have qb := hrowQ.cell (i := 0) (by decide)
        have fb := hrowQ.frozen 0
        have gq := hrowQ.lt
        gi_wp2_with fail
        show _ ∧ _
        have hko : KeepsOthers Y (wq.setCell ⟨w.heap.size + 1 + 1, 0, none⟩ (.bool false)) := (others_below hbQ).trans (KeepsOthers.setCell _ _ _)
        have hcc : ∀ bb o u, Y.cell? ⟨bb, o, none⟩ = some u → ¬ bb = w.heap.size + 1 + 1 → (wq.setCell ⟨w.heap.size + 1 + 1, 0, none⟩ (.bool false)).cell? ⟨bb, o, none⟩ = some u := fun bb o u h hne => (World.cell?_setCell_other _ _ _ _ (by simp [hne])).trans (cell_grown hbQ h)
        refine ⟨hko.from _, hcc, rfl, HRFF.out, (hrowQ.set 0 (.bool false)).congr (fun i hi => by
          have : i = 0 := by omega
          rw [this]
          rfl), (hb.trans (hbQ.mono hb.size)).setCell (p := ⟨w.heap.size + 1 + 1, 0, none⟩) (by simp; omega) _, hkf.trans (hko.from _), fun bb o u h hne => hcc bb o u (hkp.toC bb o u h hne) hne⟩
      · have hok2 : okStep L R f i k (s1, s2) = true := by rw [HOK.out, decide_eq_true_eq]; omega
        have HOK2 := hid hok2
        clear hok2
        gi_wp2_with fail
        refine ⟨KeepsFrom.of_grownBy (grown_none hbQ) (fun j e => by cases e), hM2.below hi2 hbQ, ?_⟩
        obtain ⟨e1, e2, e3, e4, e5, e6, e7, e8, e9⟩ := OwnFrom.below hI2 hi2 hbQ
        refine ⟨e1, e2, e3, e4, e5, fun s hs => ?_, e7, e8, e9⟩
        rcases List.mem_append.1 hs with h | h
        · exact hok s h
        · rw [List.mem_singleton] at h; rw [h]; exact HOK2.out
  case done =>
    rintro D X hD hi hKD
    obtain ⟨⟨p0, p1, p2, p3, p4, p5, p6⟩, ht, hrow, hcl, hall, hb⟩ := hi
    have hrt : rightB L R f nl nr = true := by unfold rightB; rw [List.all_eq_true]; exact hall
    have HPV : Hid (provesB L R f nl nr cost = (decide (f 0 0 = 0) && decide (f nl nr = cost))) := hid (by rw [HPB.out, hrt, Bool.true_and])
    have hn0 : ∀ Z, Below X.heap.size X Z → CallsIn F (n - 1) Try.prog 93 #[.agg #[.int .i64 0, .int .i64 0], .pointer (some ⟨w.heap.size + 1, 0, none⟩)] Z fun e w' => e = .returned (.int .i64 (f 0 0)) ∧ Below Z.heap.size Z w' := fun Z hZ => hc (hnum 0 0 Z (w.heap.size + 1) (by omega) (by omega) (hb.trans (hZ.mono hb.size)) (cell_grown hZ ht))
    have hnE : ∀ Z, Below X.heap.size X Z → CallsIn F (n - 1) Try.prog 93 #[.agg #[.int .i64 (nl : Int), .int .i64 (nr : Int)], .pointer (some ⟨w.heap.size + 1, 0, none⟩)] Z fun e w' => e = .returned (.int .i64 (f nl nr)) ∧ Below Z.heap.size Z w' := fun Z hZ => hc (hnum nl nr Z (w.heap.size + 1) (by omega) (by omega) (hb.trans (hZ.mono hb.size)) (cell_grown hZ ht))
    have hend : ∀ Z, CallsIn F (n - 1) Try.prog 84 #[.agg #[.slice la nl cl, .int .u8 0, .int .i64 0, .slice ra nr cr, .int .u8 1, .int .i64 0, .slice (some ⟨b, 0, none⟩) 3 3]] Z fun e w' => e = .returned (.agg #[.int .i64 (nl : Int), .int .i64 (nr : Int)]) ∧ Below Z.heap.size Z w' := fun Z => hc (by
      have h := pend_any 0 1 nl cl 0 nr cr 0 la ra (some ⟨b, 0, none⟩) 3 3 Z hnl hnr (by omega) (by omega)
      rw [Nat.zero_add, Nat.zero_add] at h
      exact h)
    generalize f 0 0 = z0 at hn0 HPV
    generalize f nl nr = zn at hnE HPV
    clear hall hrt
    have gp := lt_of_cell p0
    have hb0 : Below X.heap.size X X.drew := (Below.refl _ _).drew
    gi_wp2_with fail
    refine region_calm ?_
    refine region_held (S := fun w' : World => w'.cell? ⟨w.heap.size, 0, none⟩ = some (.slice la nl cl) ∧ w'.cell? ⟨w.heap.size, 1, none⟩ = some (.int .u8 0) ∧ w'.cell? ⟨w.heap.size, 2, none⟩ = some (.int .i64 0) ∧ w'.cell? ⟨w.heap.size, 3, none⟩ = some (.slice ra nr cr) ∧ w'.cell? ⟨w.heap.size, 4, none⟩ = some (.int .u8 1) ∧ w'.cell? ⟨w.heap.size, 5, none⟩ = some (.int .i64 0) ∧ w'.cell? ⟨w.heap.size, 6, none⟩ = some (.slice (some ⟨b, 0, none⟩) 3 3) ∧ w'.cell? ⟨w.heap.size + 1, 0, none⟩ = some (.slice ta t tc) ∧ w'.cell? ⟨w.heap.size + 1 + 1 + 1, 0, none⟩ = some (.func (.func 93) #[] #[.pointer (some ⟨w.heap.size + 1, 0, none⟩)])) (by kernel_rfl) ⟨cell_grown hb0 p0, cell_grown hb0 p1, cell_grown hb0 p2, cell_grown hb0 p3, cell_grown hb0 p4, cell_grown hb0 p5, cell_grown hb0 p6, cell_grown hb0 ht, cell_grown hb0 hcl⟩ (fun hHeld => ?_)
    refine held_take (i := 0) (v := ?_) (plain_of (by kernel_rfl)) rfl (by kernel_rfl) (by kernel_rfl) (by kernel_rfl) (fun _ _ _ h => (by cases h.1)) (Or.inl ⟨by rfl, ?_⟩) (fun _ => rfl) (by assumption) ?_
    rotate_left 1
    · intro w hSw
      (try dsimp only at hSw)
      go_simp
      all_goals (with_reducible rfl)
    try simp only [Act.put, List.setIfInBounds_toArray, List.set_cons_zero, List.set_cons_succ]
    refine held_take (i := 1) (v := ?_) (plain_of (by kernel_rfl)) rfl (by kernel_rfl) (by kernel_rfl) (by kernel_rfl) (fun _ _ _ h => (by cases h.1)) (Or.inl ⟨by rfl, ?_⟩) (fun _ => rfl) (by assumption) ?_
    rotate_left 1
    · intro w hSw
      (try dsimp only at hSw)
      go_simp
      all_goals (with_reducible rfl)
    try simp only [Act.put, List.setIfInBounds_toArray, List.set_cons_zero, List.set_cons_succ]
    refine held_one (i := 2) (by kernel_rfl) rfl (fun K hK => ?_)
    rw [if_pos (by rfl)]
    unfold Oper.wpIn
    refine ⟨fun f _ => hF f, ?_⟩
    go_simp
    refine (hn0 _ hb0).mono ?_
    rintro e wp ⟨rfl, hbp⟩
    have hbA := below_then hb0 hbp
    clear hHeld hbp hn0
    refine hK.out _ _ ?_ (fun hHeld => ?_)
    · exact ⟨cell_grown hbA p0, cell_grown hbA p1, cell_grown hbA p2, cell_grown hbA p3, cell_grown hbA p4, cell_grown hbA p5, cell_grown hbA p6, cell_grown hbA ht, cell_grown hbA hcl⟩
    clear hK K
    try simp only [Act.put, List.setIfInBounds_toArray, List.set_cons_zero, List.set_cons_succ]
    by_cases hz : z0 = 0
    · subst hz
      refine held_take (i := 3) (v := ?_) (plain_of (by kernel_rfl)) rfl (by kernel_rfl) (by kernel_rfl) (by kernel_rfl) (fun _ _ _ h => (by cases h.1)) (Or.inl ⟨by rfl, ?_⟩) (fun _ => rfl) (by assumption) ?_
      rotate_left 1
      · intro w hSw
        (try dsimp only at hSw)
        go_simp
        all_goals (with_reducible rfl)
      try simp only [Act.put, List.setIfInBounds_toArray, List.set_cons_zero, List.set_cons_succ]
      refine held_take (i := 4) (v := ?_) (plain_of (by kernel_rfl)) rfl (by kernel_rfl) (by kernel_rfl) (by kernel_rfl) (fun _ _ _ h => (by cases h.1)) (Or.inl ⟨by rfl, ?_⟩) (fun _ => rfl) (by assumption) ?_
      rotate_left 1
      · intro w hSw
        (try dsimp only at hSw)
        go_simp
        all_goals (with_reducible rfl)
      try simp only [Act.put, List.setIfInBounds_toArray, List.set_cons_zero, List.set_cons_succ]
      refine held_take (i := 5) (v := ?_) (plain_of (by kernel_rfl)) rfl (by kernel_rfl) (by kernel_rfl) (by kernel_rfl) (fun _ _ _ h => (by cases h.1)) (Or.inl ⟨by rfl, ?_⟩) (fun _ => rfl) (by assumption) ?_
      rotate_left 1
      · intro w hSw
        (try dsimp only at hSw)
        go_simp
        all_goals (with_reducible rfl)
      try simp only [Act.put, List.setIfInBounds_toArray, List.set_cons_zero, List.set_cons_succ]
      refine held_take (i := 6) (v := ?_) (plain_of (by kernel_rfl)) rfl (by kernel_rfl) (by kernel_rfl) (by kernel_rfl) (fun _ _ _ h => (by cases h.1)) (Or.inl ⟨by rfl, ?_⟩) (fun _ => rfl) (by assumption) ?_
      rotate_left 1
      · intro w hSw
        (try dsimp only at hSw)
        go_simp
        all_goals (with_reducible rfl)
      try simp only [Act.put, List.setIfInBounds_toArray, List.set_cons_zero, List.set_cons_succ]
      refine held_take (i := 9) (v := ?_) (plain_of (by kernel_rfl)) rfl (by kernel_rfl) (by kernel_rfl) (by kernel_rfl) (fun _ _ _ h => (by cases h.1)) (Or.inl ⟨by rfl, ?_⟩) (fun _ => rfl) (by assumption) ?_
      rotate_left 1
      · intro w hSw
        (try dsimp only at hSw)
        go_simp
        all_goals (with_reducible rfl)
      try simp only [Act.put, List.setIfInBounds_toArray, List.set_cons_zero, List.set_cons_succ]
      refine held_one (i := 7) (by kernel_rfl) rfl (fun K hK => ?_)
      rw [if_pos (by rfl)]
      unfold Oper.wpIn
      refine ⟨fun f _ => hF f, ?_⟩
      go_simp
      refine (hend _).mono ?_
      rintro e wp2 ⟨rfl, hbp⟩
      have hbB := below_then hbA hbp
      clear hHeld hbp
      refine hK.out _ _ ?_ (fun hHeld => ?_)
      · exact ⟨cell_grown hbB p0, cell_grown hbB p1, cell_grown hbB p2, cell_grown hbB p3, cell_grown hbB p4, cell_grown hbB p5, cell_grown hbB p6, cell_grown hbB ht, cell_grown hbB hcl⟩
      clear hK K
      try simp only [Act.put, List.setIfInBounds_toArray, List.set_cons_zero, List.set_cons_succ]
      refine held_one (i := 8) (by kernel_rfl) rfl (fun K hK => ?_)
      rw [if_pos (by rfl)]
      unfold Oper.wpIn
      refine ⟨fun f _ => hF f, ?_⟩
      go_simp
      refine (hnE _ hbB).mono ?_
      rintro e wp3 ⟨rfl, hbp⟩
      have hbD := below_then hbB hbp
      clear hHeld hbp
      refine hK.out _ _ ?_ (fun hHeld => ?_)
      · exact ⟨cell_grown hbD p0, cell_grown hbD p1, cell_grown hbD p2, cell_grown hbD p3, cell_grown hbD p4, cell_grown hbD p5, cell_grown hbD p6, cell_grown hbD ht, cell_grown hbD hcl⟩
      clear hK K
      try simp only [Act.put, List.setIfInBounds_toArray, List.set_cons_zero, List.set_cons_succ]
      refine held_take (i := 10) (v := ?_) (plain_of (by kernel_rfl)) rfl (by kernel_rfl) (by kernel_rfl) (by kernel_rfl) (fun _ _ _ h => (by cases h.1)) (Or.inl ⟨by rfl, ?_⟩) (fun _ => rfl) (by assumption) ?_
      rotate_left 1
      · intro w hSw
        (try dsimp only at hSw)
        go_simp
        all_goals (with_reducible rfl)
      try simp only [Act.put, List.setIfInBounds_toArray, List.set_cons_zero, List.set_cons_succ]
      refine held_take (i := 11) (v := ?_) (plain_of (by kernel_rfl)) rfl (by kernel_rfl) (by kernel_rfl) (by kernel_rfl) (fun _ _ _ h => (by cases h.1)) (Or.inl ⟨by rfl, ?_⟩) (fun _ => rfl) (by assumption) ?_
      rotate_left 1
      · intro w hSw
        (try dsimp only at hSw)
        go_simp
        all_goals (with_reducible rfl)
      try simp only [Act.put, List.setIfInBounds_toArray, List.set_cons_zero, List.set_cons_succ]
      have hrowQ := row_kept hrow (grown_none hbD) (fun r e => by cases e)
      have qb := hrowQ.cell (i := 0) (by decide)
      have fb := hrowQ.frozen 0
      have gq := hrowQ.lt
      refine held_one (i := 12) (by kernel_rfl) rfl (fun K hK => ?_)
      rw [if_pos (by rfl)]
      unfold Oper.wpIn
      go_simp
      have hko : KeepsOthers X (wp3.setCell ⟨w.heap.size + 1 + 1, 0, none⟩ (.bool (zn == cost))) := (others_below hbD).trans (KeepsOthers.setCell _ _ _)
      have hcc : ∀ bb o u, X.cell? ⟨bb, o, none⟩ = some u → ¬ bb = w.heap.size + 1 + 1 → (wp3.setCell ⟨w.heap.size + 1 + 1, 0, none⟩ (.bool (zn == cost))).cell? ⟨bb, o, none⟩ = some u := fun bb o u h hne => (World.cell?_setCell_other _ _ _ _ (by simp [hne])).trans (cell_grown hbD h)
      have hbz := (hb.trans (hbD.mono hb.size)).setCell (p := ⟨w.heap.size + 1 + 1, 0, none⟩) (by simp; omega) (.bool (zn == cost))
      have hK2 := hko.same _ _ hKD rfl
      have r2 := hrowQ.set 0 (.bool (zn == cost))
      refine hK.out _ _ ?_ (fun hHeld => ?_)
      · exact ⟨hcc _ _ _ p0 (by omega), hcc _ _ _ p1 (by omega), hcc _ _ _ p2 (by omega), hcc _ _ _ p3 (by omega), hcc _ _ _ p4 (by omega), hcc _ _ _ p5 (by omega), hcc _ _ _ p6 (by omega), hcc _ _ _ ht (by omega), hcc _ _ _ hcl (by omega)⟩
      clear hK K
      try simp only [Act.put, List.setIfInBounds_toArray, List.set_cons_zero, List.set_cons_succ]
      refine held_done (by kernel_rfl) ?_ _
      refine ⟨rfl, ?_⟩
      clear hHeld
      generalize wp3.setCell ⟨w.heap.size + 1 + 1, 0, none⟩ (.bool (zn == cost)) = WF at hko hcc hbz hK2 r2 ⊢
      gi_wp2
      refine ⟨by simp, .inl ⟨_, _, rfl, run_takeDeferred hK2, ?_⟩⟩
      have hg := grownBy_putObj' WF D (.deferred none)
      have hrr : ∀ r, (some D) = some r → ∃ o : Obj, WF.heap[r]? = some o ∧ o.isCells = false := fun r e => by cases e; exact ⟨_, hK2, rfl⟩
      have r3 := row_kept r2 hg hrr
      have hby := hbz.grown hg hbz.size (fun r e => by cases e; omega)
      generalize WF.putObj D (.deferred none) = WG at r3 hby ⊢
      have zb : WG.cell? ⟨w.heap.size + 1 + 1, 0, none⟩ = some (.bool (zn == cost)) := r3.cell (i := 0) (by decide)
      refine ⟨.bool (zn == cost), by simp [results, Try.f66, go_sem, zb], ?_, hby⟩
      rw [HPV.out]
      rfl
    · have hz2 : (z0 == 0) = false := by rw [beq_eq_false_iff_ne]; exact hz
      refine held_take (i := 3) (v := .bool false) (plain_of (by kernel_rfl)) rfl (by kernel_rfl) (by kernel_rfl) (by kernel_rfl) (fun _ _ _ h => (by cases h.1)) (Or.inl ⟨by rfl, ?_⟩) (fun _ => rfl) (by assumption) ?_
      · intro w hSw
        (try dsimp only at hSw)
        go_simp
        all_goals (first | (with_reducible rfl) | simp [hz])
      try simp only [Act.put, List.setIfInBounds_toArray, List.set_cons_zero, List.set_cons_succ]
      refine held_take (i := 4) (v := ?_) (plain_of (by kernel_rfl)) rfl (by kernel_rfl) (by kernel_rfl) (by kernel_rfl) (fun _ _ _ h => (by cases h.1)) (Or.inl ⟨by rfl, ?_⟩) (fun _ => rfl) (by assumption) ?_
      rotate_left 1
      · intro w hSw
        (try dsimp only at hSw)
        go_simp
        all_goals (with_reducible rfl)
      try simp only [Act.put, List.setIfInBounds_toArray, List.set_cons_zero, List.set_cons_succ]
      refine held_take (i := 5) (v := undef) (plain_of (by kernel_rfl)) rfl (by kernel_rfl) (by kernel_rfl) (by kernel_rfl) (fun _ _ _ h => (by cases h.1)) (Or.inr ⟨by rfl, rfl⟩) (fun _ => rfl) (by assumption) ?_
      try simp only [Act.put, List.setIfInBounds_toArray, List.set_cons_zero, List.set_cons_succ]
      refine held_take (i := 6) (v := undef) (plain_of (by kernel_rfl)) rfl (by kernel_rfl) (by kernel_rfl) (by kernel_rfl) (fun _ _ _ h => (by cases h.1)) (Or.inr ⟨by rfl, rfl⟩) (fun _ => rfl) (by assumption) ?_
      try simp only [Act.put, List.setIfInBounds_toArray, List.set_cons_zero, List.set_cons_succ]
      refine held_take (i := 9) (v := undef) (plain_of (by kernel_rfl)) rfl (by kernel_rfl) (by kernel_rfl) (by kernel_rfl) (fun _ _ _ h => (by cases h.1)) (Or.inr ⟨by rfl, rfl⟩) (fun _ => rfl) (by assumption) ?_
      try simp only [Act.put, List.setIfInBounds_toArray, List.set_cons_zero, List.set_cons_succ]
      refine held_one (i := 7) (by kernel_rfl) rfl (fun K hK => ?_)
      rw [if_neg (fun h => by cases (show false = true from h))]
      refine ⟨fun f _ => hF f, ?_⟩
      refine hK.out _ _ ?_ (fun hHeld => ?_)
      · exact ⟨cell_grown hbA p0, cell_grown hbA p1, cell_grown hbA p2, cell_grown hbA p3, cell_grown hbA p4, cell_grown hbA p5, cell_grown hbA p6, cell_grown hbA ht, cell_grown hbA hcl⟩
      clear hK K
      try simp only [Act.put, List.setIfInBounds_toArray, List.set_cons_zero, List.set_cons_succ]
      refine held_one (i := 8) (by kernel_rfl) rfl (fun K hK => ?_)
      rw [if_neg (fun h => by cases (show false = true from h))]
      refine ⟨fun f _ => hF f, ?_⟩
      refine hK.out _ _ ?_ (fun hHeld => ?_)
      · exact ⟨cell_grown hbA p0, cell_grown hbA p1, cell_grown hbA p2, cell_grown hbA p3, cell_grown hbA p4, cell_grown hbA p5, cell_grown hbA p6, cell_grown hbA ht, cell_grown hbA hcl⟩
      clear hK K
      try simp only [Act.put, List.setIfInBounds_toArray, List.set_cons_zero, List.set_cons_succ]
      refine held_take (i := 10) (v := undef) (plain_of (by kernel_rfl)) rfl (by kernel_rfl) (by kernel_rfl) (by kernel_rfl) (fun _ _ _ h => (by cases h.1)) (Or.inr ⟨by rfl, rfl⟩) (fun _ => rfl) (by assumption) ?_
      try simp only [Act.put, List.setIfInBounds_toArray, List.set_cons_zero, List.set_cons_succ]
      refine held_take (i := 11) (v := ?_) (plain_of (by kernel_rfl)) rfl (by kernel_rfl) (by kernel_rfl) (by kernel_rfl) (fun _ _ _ h => (by cases h.1)) (Or.inl ⟨by rfl, ?_⟩) (fun _ => rfl) (by assumption) ?_
      rotate_left 1
      · intro w hSw
        (try dsimp only at hSw)
        go_simp
        all_goals (with_reducible rfl)
      try simp only [Act.put, List.setIfInBounds_toArray, List.set_cons_zero, List.set_cons_succ]
      have hrowQ := row_kept hrow (grown_none hbA) (fun r e => by cases e)
      have qb := hrowQ.cell (i := 0) (by decide)
      have fb := hrowQ.frozen 0
      have gq := hrowQ.lt
      refine held_one (i := 12) (by kernel_rfl) rfl (fun K hK => ?_)
      rw [if_pos (by rfl)]
      unfold Oper.wpIn
      go_simp
      have hko : KeepsOthers X (wp.setCell ⟨w.heap.size + 1 + 1, 0, none⟩ (.bool false)) := (others_below hbA).trans (KeepsOthers.setCell _ _ _)
      have hcc : ∀ bb o u, X.cell? ⟨bb, o, none⟩ = some u → ¬ bb = w.heap.size + 1 + 1 → (wp.setCell ⟨w.heap.size + 1 + 1, 0, none⟩ (.bool false)).cell? ⟨bb, o, none⟩ = some u := fun bb o u h hne => (World.cell?_setCell_other _ _ _ _ (by simp [hne])).trans (cell_grown hbA h)
      have hbz := (hb.trans (hbA.mono hb.size)).setCell (p := ⟨w.heap.size + 1 + 1, 0, none⟩) (by simp; omega) (.bool false)
      have hK2 := hko.same _ _ hKD rfl
      have r2 := hrowQ.set 0 (.bool false)
      refine hK.out _ _ ?_ (fun hHeld => ?_)
      · exact ⟨hcc _ _ _ p0 (by omega), hcc _ _ _ p1 (by omega), hcc _ _ _ p2 (by omega), hcc _ _ _ p3 (by omega), hcc _ _ _ p4 (by omega), hcc _ _ _ p5 (by omega), hcc _ _ _ p6 (by omega), hcc _ _ _ ht (by omega), hcc _ _ _ hcl (by omega)⟩
      clear hK K
      try simp only [Act.put, List.setIfInBounds_toArray, List.set_cons_zero, List.set_cons_succ]
      refine held_done (by kernel_rfl) ?_ _
      refine ⟨rfl, ?_⟩
      clear hHeld
      generalize wp.setCell ⟨w.heap.size + 1 + 1, 0, none⟩ (.bool false) = WF at hko hcc hbz hK2 r2 ⊢
      gi_wp2
      refine ⟨by simp, .inl ⟨_, _, rfl, run_takeDeferred hK2, ?_⟩⟩
      have hg := grownBy_putObj' WF D (.deferred none)
      have hrr : ∀ r, (some D) = some r → ∃ o : Obj, WF.heap[r]? = some o ∧ o.isCells = false := fun r e => by cases e; exact ⟨_, hK2, rfl⟩
      have r3 := row_kept r2 hg hrr
      have hby := hbz.grown hg hbz.size (fun r e => by cases e; omega)
      generalize WF.putObj D (.deferred none) = WG at r3 hby ⊢
      have zb : WG.cell? ⟨w.heap.size + 1 + 1, 0, none⟩ = some (.bool false) := r3.cell (i := 0) (by decide)
      refine ⟨.bool false, by simp [results, Try.f66, go_sem, zb], ?_, hby⟩
      rw [HPV.out]
      rw [decide_eq_false hz]
      rfl

end Go.Proofs.Ytohahlnhbppnhaa
