/- Tongue: the table of the least costs of what is left from each place. -/
import Derived.Test.YtohahlnhbppnhaaK
namespace Go.Proofs.Ytohahlnhbppnhaa
open Go.RowKit Go.Shelf Go.Maps
set_option linter.unusedSimpArgs false
set_option linter.unusedVariables false

attribute [local go_sem] Oper.semAt_some

theorem Try.info3 : (Try.prog.info? 3).map (fun i => (i.zero, i.size, i.bytes)) = some (some (.int .i64 0), 1, 8) := by kernel_rfl

theorem book_boxed {A A' : World} {row : Option Nat} {b : Nat} {t : TypeId} {v : Value} (h : Boxed A b t v) (hg : A.grownBy A' row) (hr : ∀ r, row = some r → ∃ o : Obj, A.heap[r]? = some o ∧ o.isCells = false) : Boxed A' b t v :=
  h.kept hg (fun e' => by
    obtain ⟨o, ho, hc⟩ := hr b e'.symm
    rw [show A.heap[b]? = _ from h] at ho; cases ho; cases hc)

theorem book_owns {A A' : World} {row : Option Nat} {base : Nat} {e : TypeId} {size : Nat} {v : Value} {k : Nat} {xs : List Value} (h : A.ownsRow base e size v k xs) (hg : A.grownBy A' row) (hr : ∀ r, row = some r → ∃ o : Obj, A.heap[r]? = some o ∧ o.isCells = false) : A'.ownsRow base e size v k xs := by
  refine h.kept hg ?_
  rcases h.2 with ⟨rfl, _⟩ | ⟨g, cap, cur, rfl, _, hgb, _⟩
  · exact .inl rfl
  · refine .inr fun e' => ?_
    obtain ⟨o, ho, hc⟩ := hr g (by simpa [Value.ownBlock] using e'.symm)
    rw [hgb] at ho; cases ho; cases hc

theorem not_mine_old {W : World} {cb : Nat} {t e : TypeId} {size k : Nat} {v : Value} {xs : List Value} (hv : Boxed W cb t v) (hrow : W.ownsRow cb e size v k xs) {j : Nat} (hj : j < cb) : ¬ Mine cb W j := fun h => by
  rcases (mine_iff hv j).1 h with e | e
  · omega
  · have := (hrow.lt j e).1
    omega

theorem owns_shape {W : World} {base : Nat} {e : TypeId} {size : Nat} {v : Value} {k : Nat} {xs : List Value} (h : W.ownsRow base e size v k xs) : ∃ a cap, v = .slice a k cap := by
  rcases h.2 with ⟨rfl, rfl⟩ | ⟨g, cap, _, rfl, _⟩
  · exact ⟨none, 0, rfl⟩
  · exact ⟨some ⟨g, 0, none⟩, cap, rfl⟩

theorem ints_of_owns {W : World} {base : Nat} {e : TypeId} {a : Option Addr} {cap : Nat} {L : List Int} (h : W.ownsRow base e 1 (.slice a L.length cap) L.length (L.map fun x => .int .i64 x)) : IntsAt W a L := by
  intro i hi
  rcases h.2 with ⟨_, h0⟩ | ⟨g, cap', cur, hv, _, hg, _⟩
  · omega
  · simp only [Value.slice.injEq] at hv
    obtain ⟨rfl, -, -⟩ := hv
    have hc := h.cells (g := g) rfl
    have hadd : ∀ j, (⟨g, 0, none⟩ : Addr).add j = ⟨g, 0 + j, none⟩ := fun j => by unfold Addr.add; split <;> simp_all
    have c1 := hc i (.int .i64 (L.getD i 0)) (by simp [List.getElem?_eq_getElem hi])
    rw [hadd] at c1
    exact ⟨g, 0, rfl, c1⟩

def RestsPost (L R : List Sen) (nl nr : Nat) (w : World) (e : Ending) (w' : World) : Prop :=
  ∃ mb n, e = .returned (.map (some mb)) ∧ TableAt w' mb n (restM L R) (placesM nl nr) ∧ w.heap.size ≤ mb ∧ Below w.heap.size w w'

set_option maxRecDepth 100000 in
set_option maxHeartbeats 4000000 in
theorem rests_any (L R : List Sen) (nl cl nr cr b b0 b2 : Nat) (la ra : Option Addr) (w : World) (hL : L.length = nl) (hR : R.length = nr) (fL : FineT L) (fR : FineT R) (hcl : nl ≤ cl) (hcr : nr ≤ cr) (hS : TextAt w la L) (hT : TextAt w ra R) (hC : ChargesAt w b b0 b2) :
    Calls Try.prog 78 #[.agg #[.slice la nl cl, .int .u8 0, .int .i64 0, .slice ra nr cr, .int .u8 1, .int .i64 0, .slice (some ⟨b, 0, none⟩) 3 3]] w (RestsPost L R nl nr w) := by
  obtain ⟨F, hFw⟩ : ∃ F, F = Fence.wide := ⟨_, rfl⟩
  have hF : ∀ f, F.fn f := fun f => by rw [hFw]; exact trivial
  have hro : F.round = none := by rw [hFw]; rfl
  have hd : F.depth = none := by rw [hFw]; rfl
  have hc : ∀ {n : Nat} {f args w R}, Calls Try.prog f args w R → CallsIn F n Try.prog f args w R := fun h => by rw [hFw]; exact callsIn_wide.2 h
  suffices h : CallsIn F 9 Try.prog 78 #[.agg #[.slice la nl cl, .int .u8 0, .int .i64 0, .slice ra nr cr, .int .u8 1, .int .i64 0, .slice (some ⟨b, 0, none⟩) 3 3]] w (RestsPost L R nl nr w) by
    rw [hFw] at h; exact callsIn_wide.1 h
  clear hFw
  obtain ⟨n, hn⟩ : ∃ n, n = 9 := ⟨_, rfl⟩
  rw [← hn]
  have hn3 : 8 ≤ n := by omega
  have h1 : 1 ≤ n := by omega
  clear hn
  have hnl : nl ≤ 1000 := by rw [← hL]; exact fL.1
  have hnr : nr ≤ 1000 := by rw [← hR]; exact fR.1
  obtain ⟨i0, hi, hz0, hz1, hz2⟩ := info_parts Try.info3
  have hmm := @run_makeMap Try.prog
  refine callsIn_of_wp_marks Try.func78 rfl (hF _) ?_ hro
  simp only [Try.ntmps78, List.size_toArray, List.length_cons, List.length_nil, Nat.reduceAdd, Nat.reduceSub, Array.replicate_succ, Array.replicate_zero, List.push_toArray, List.append_toArray, List.nil_append, List.cons_append]
  gi_wp2_with (gi_at_call 94; refine (hc (places_make (.slice la nl cl) (.int .u8 0) (.int .i64 0) (.slice ra nr cr) (.int .u8 1) (.int .i64 0) (.slice (some ⟨b, 0, none⟩) 3 3) _)).mono ?_; rintro e w' ⟨rfl, rfl⟩)
  obtain ⟨W1, hW1⟩ : ∃ X, X = (((w.alloc (.cells #[.slice la nl cl, .int .u8 0, .int .i64 0, .slice ra nr cr, .int .u8 1, .int .i64 0, .slice (some ⟨b, 0, none⟩) 3 3] 119)).alloc (.map #[] 0)).alloc (.cells #[.map (some (w.heap.size + 1))] 146)).alloc (.cells #[.slice la nl cl, .int .u8 0, .int .i64 0, .slice ra nr cr, .int .u8 1, .int .i64 0, .slice (some ⟨b, 0, none⟩) 3 3] 119) := ⟨_, rfl⟩
  have hB1 : Below w.heap.size w W1 := by rw [hW1]; exact ((((Below.refl _ w).alloc (Nat.le_refl _) _).alloc (by simp) _).alloc (by simp; omega) _).alloc (by simp; omega) _
  have s1 : W1.heap.size = w.heap.size + 4 := by rw [hW1]; simp
  have p0 : W1.cell? ⟨w.heap.size, 0, none⟩ = some (.slice la nl cl) := by rw [hW1]; simp [go_sem]
  have p1 : W1.cell? ⟨w.heap.size, 1, none⟩ = some (.int .u8 0) := by rw [hW1]; simp [go_sem]
  have p2 : W1.cell? ⟨w.heap.size, 2, none⟩ = some (.int .i64 0) := by rw [hW1]; simp [go_sem]
  have p3 : W1.cell? ⟨w.heap.size, 3, none⟩ = some (.slice ra nr cr) := by rw [hW1]; simp [go_sem]
  have p4 : W1.cell? ⟨w.heap.size, 4, none⟩ = some (.int .u8 1) := by rw [hW1]; simp [go_sem]
  have p5 : W1.cell? ⟨w.heap.size, 5, none⟩ = some (.int .i64 0) := by rw [hW1]; simp [go_sem]
  have p6 : W1.cell? ⟨w.heap.size, 6, none⟩ = some (.slice (some ⟨b, 0, none⟩) 3 3) := by rw [hW1]; simp [go_sem]
  have hmx : W1.cell? ⟨w.heap.size + 1 + 1, 0, none⟩ = some (.map (some (w.heap.size + 1))) := by rw [hW1]; simp [go_sem]
  have q0 : W1.cell? ⟨w.heap.size + 1 + 1 + 1, 0, none⟩ = some (.slice la nl cl) := by rw [hW1]; simp [go_sem]
  have q1 : W1.cell? ⟨w.heap.size + 1 + 1 + 1, 1, none⟩ = some (.int .u8 0) := by rw [hW1]; simp [go_sem]
  have q2 : W1.cell? ⟨w.heap.size + 1 + 1 + 1, 2, none⟩ = some (.int .i64 0) := by rw [hW1]; simp [go_sem]
  have q3 : W1.cell? ⟨w.heap.size + 1 + 1 + 1, 3, none⟩ = some (.slice ra nr cr) := by rw [hW1]; simp [go_sem]
  have q4 : W1.cell? ⟨w.heap.size + 1 + 1 + 1, 4, none⟩ = some (.int .u8 1) := by rw [hW1]; simp [go_sem]
  have q5 : W1.cell? ⟨w.heap.size + 1 + 1 + 1, 5, none⟩ = some (.int .i64 0) := by rw [hW1]; simp [go_sem]
  have q6 : W1.cell? ⟨w.heap.size + 1 + 1 + 1, 6, none⟩ = some (.slice (some ⟨b, 0, none⟩) 3 3) := by rw [hW1]; simp [go_sem]
  have htab : TableAt W1 (w.heap.size + 1) 0 (restM L R) [] := by
    rw [hW1]
    have := TableAt.made (w.alloc (.cells #[.slice la nl cl, .int .u8 0, .int .i64 0, .slice ra nr cr, .int .u8 1, .int .i64 0, .slice (some ⟨b, 0, none⟩) 3 3] 119)) (restM L R)
    rw [World.size_alloc] at this
    exact (this.kept (World.grownBy_alloc _ _ none) (by simp)).kept (World.grownBy_alloc _ _ none) (by simp)
  rw [← hW1]
  clear hW1 hmm
  let PB : World → Prop := fun X => X.cell? ⟨w.heap.size, 0, none⟩ = some (.slice la nl cl) ∧ X.cell? ⟨w.heap.size, 1, none⟩ = some (.int .u8 0) ∧ X.cell? ⟨w.heap.size, 2, none⟩ = some (.int .i64 0) ∧ X.cell? ⟨w.heap.size, 3, none⟩ = some (.slice ra nr cr) ∧ X.cell? ⟨w.heap.size, 4, none⟩ = some (.int .u8 1) ∧ X.cell? ⟨w.heap.size, 5, none⟩ = some (.int .i64 0) ∧ X.cell? ⟨w.heap.size, 6, none⟩ = some (.slice (some ⟨b, 0, none⟩) 3 3)
  let I : List (Nat × Nat) → World → Prop := fun pre X => TableAt X (w.heap.size + 1) pre.length (restM L R) pre ∧ X.cell? ⟨w.heap.size + 1 + 1, 0, none⟩ = some (.map (some (w.heap.size + 1))) ∧ PB X ∧ Below w.heap.size w X
  have hPB : ∀ (A A' : World) (row : Option Nat), PB A → A.grownBy A' row → (∀ r, row = some r → ∃ o : Obj, A.heap[r]? = some o ∧ o.isCells = false) → PB A' := fun A A' row h hg hr =>
    ⟨cell_kept h.1 hg hr, cell_kept h.2.1 hg hr, cell_kept h.2.2.1 hg hr, cell_kept h.2.2.2.1 hg hr, cell_kept h.2.2.2.2.1 hg hr, cell_kept h.2.2.2.2.2.1 hg hr, cell_kept h.2.2.2.2.2.2 hg hr⟩
  have hI : OwnFrom W1.heap.size I := fun s A A' row hs hg hr => by
    have hr' : ∀ r, row = some r → ∃ o : Obj, A.heap[r]? = some o ∧ o.isCells = false := fun r e => (hr r e).2
    have hne : ∀ r, row = some r → W1.heap.size ≤ r := fun r e => (hr r e).1
    refine ⟨hs.1.kept hg (fun e => ?_), cell_kept hs.2.1 hg hr', hPB _ _ _ hs.2.2.1 hg hr', hs.2.2.2.grown hg hs.2.2.2.size (fun r e => ?_)⟩
    · have := hne _ e.symm; omega
    · have := hne r e; omega
  have hM : MineOk W1.heap.size I (fun _ k => k = w.heap.size + 1) := ⟨fun s X k hs hk => by rw [hk]; exact hs.1.lt, fun _ _ _ _ _ _ _ _ h => h⟩
  refine rangeO hro h1 (gf := 123) (lb := #[.pointer (some ⟨w.heap.size + 1 + 1 + 1, 0, none⟩)]) rfl (hF _) (enters_of Try.func123 (by kernel_rfl) rfl)
    (places_seq hF hro hd hc (by omega) (w.heap.size + 1 + 1 + 1) nl cl nr cr 3 3 la ra (some ⟨b, 0, none⟩) hnl hnr W1 q0 q1 q2 q3 q4 q5 q6) (Below.refl _ _) (fun _ => rfl) I (fun _ _ _ => False) hI (fun _ _ _ _ _ h _ _ => h)
    (fun _ k => k = w.heap.size + 1) hM (fun k hk => by omega) ⟨htab, hmx, ⟨p0, p1, p2, p3, p4, p5, p6⟩, hB1⟩
    (fun x a' X => ∃ Bx, W1.heap.size ≤ Bx ∧ X.cell? ⟨Bx, 0, none⟩ = some (.int .i64 (x.1 : Int)) ∧ X.cell? ⟨Bx, 1, none⟩ = some (.int .i64 (x.2 : Int)) ∧
      a' = { tmps := #[.agg #[.slice la nl cl, .int .u8 0, .int .i64 0, .slice ra nr cr, .int .u8 1, .int .i64 0, .slice (some ⟨b, 0, none⟩) 3 3], .pointer (some ⟨w.heap.size, 0, none⟩), .map none, .pointer (some ⟨w.heap.size + 1 + 1, 0, none⟩), .pointer (some ⟨Bx, 0, none⟩), undef, undef, .map (some (w.heap.size + 1)), .agg #[.slice la nl cl, .int .u8 0, .int .i64 0, .slice ra nr cr, .int .u8 1, .int .i64 0, .slice (some ⟨b, 0, none⟩) 3 3], .func (.func 123) #[] #[.pointer (some ⟨w.heap.size + 1 + 1 + 1, 0, none⟩)], .agg #[.int .i64 (x.1 : Int), .int .i64 (x.2 : Int)], undef, undef, undef, undef, undef, undef, undef, undef, undef, undef, undef, undef, undef, undef, undef, undef, undef, undef, undef, undef], defers := [] })
    ?hAx ?assign ?body ?done ?stop
  case hAx =>
    rintro x a' s A A' row ⟨Bx, h0, h1, h2, e⟩ hg hr
    exact ⟨Bx, h0, cell_kept h1 hg (fun r e => (hr r e).2), cell_kept h2 hg (fun r e => (hr r e).2), e⟩
  case assign =>
    intro l pre x X K hi hX hK
    dsimp only [encPlace]
    gi_wp2
    exact hK _ (X.alloc (.cells #[.int .i64 (x.1 : Int), .int .i64 (x.2 : Int)] 150)) ((KeepsOthers.alloc _ _).from _) (hM.alloc hi _) (OwnFrom.alloc hI _ hi) ⟨X.heap.size, hX, by rw [World.cell?_alloc_new]; rfl, by rw [World.cell?_alloc_new]; rfl, rfl⟩
  case done =>
    intro D X hD hi hK
    obtain ⟨ht, hm, -, hb⟩ := hi
    have hml := lt_of_cell hm
    gi_wp2
    refine ⟨by simp, .inl ⟨_, _, rfl, run_takeDeferred hK, ?_⟩⟩
    refine ⟨_, results_tmp rfl _ _ _, ?_⟩
    have hg := grownBy_putObj' X D (.deferred none)
    exact ⟨_, _, rfl, ht.kept hg (fun e => by cases e; have := ht.lt; omega), by omega, hb.grown hg hb.size (fun r e => by cases e; omega)⟩
  case stop =>
    rintro D c pre X hD hpre h hK
    exact h.elim
  case body =>
    rintro l pre ⟨i, k⟩ rest a' X hxs hX hl ⟨r, hr⟩ ⟨htab, hmx, ⟨p0, p1, p2, p3, p4, p5, p6⟩, hB⟩ ⟨Bx, hBx, x0, x1, rfl⟩
    simp only at x0 x1
    have HXS := hid (place_before hxs)
    have HPL : Hid (pre.length ≤ 1100000) := hid (by
      have h := places_length nl nr
      rw [hxs, List.length_append] at h
      have : (nl + 1) * (nr + 1) ≤ 1001 * 1001 := Nat.mul_le_mul (by omega) (by omega)
      omega)
    clear hxs
    have gx := lt_of_cell x0
    have gp := lt_of_cell p0
    have gm := lt_of_cell hmx
    gi_wp2_with (gi_at_call 80; refine (CallsIn.inRound l (hc (next_make (.slice la nl cl) (.int .u8 0) (.int .i64 0) (.slice ra nr cr) (.int .u8 1) (.int .i64 0) (.slice (some ⟨b, 0, none⟩) 3 3) (.int .i64 (i : Int)) (.int .i64 (k : Int)) _))).mono ?_; rintro e w' ⟨rfl, rfl⟩)
    obtain ⟨cb, hcb⟩ : ∃ c, c = X.heap.size := ⟨_, rfl⟩
    obtain ⟨W2, hW2⟩ : ∃ Y, Y = ((X.alloc (.cells #[.slice none 0 0] 41)).alloc (.cells #[.slice la nl cl, .int .u8 0, .int .i64 0, .slice ra nr cr, .int .u8 1, .int .i64 0, .slice (some ⟨b, 0, none⟩) 3 3] 119)).alloc (.cells #[.int .i64 (i : Int), .int .i64 (k : Int)] 150) := ⟨_, rfl⟩
    have hB2 : Below X.heap.size X W2 := by rw [hW2]; exact (((Below.refl _ X).alloc (Nat.le_refl _) _).alloc (by simp) _).alloc (by simp; omega) _
    have s2 : W2.heap.size = cb + 3 := by rw [hW2, hcb]; simp
    have bc : Boxed W2 cb 41 (.slice none 0 0) := by rw [hW2, hcb]; exact ((Boxed.new X 41 _).alloc _).alloc _
    have y0 : W2.cell? ⟨cb + 1, 0, none⟩ = some (.slice la nl cl) := by rw [hW2, hcb]; simp [go_sem]
    have y1 : W2.cell? ⟨cb + 1, 1, none⟩ = some (.int .u8 0) := by rw [hW2, hcb]; simp [go_sem]
    have y2 : W2.cell? ⟨cb + 1, 2, none⟩ = some (.int .i64 0) := by rw [hW2, hcb]; simp [go_sem]
    have y3 : W2.cell? ⟨cb + 1, 3, none⟩ = some (.slice ra nr cr) := by rw [hW2, hcb]; simp [go_sem]
    have y4 : W2.cell? ⟨cb + 1, 4, none⟩ = some (.int .u8 1) := by rw [hW2, hcb]; simp [go_sem]
    have y5 : W2.cell? ⟨cb + 1, 5, none⟩ = some (.int .i64 0) := by rw [hW2, hcb]; simp [go_sem]
    have y6 : W2.cell? ⟨cb + 1, 6, none⟩ = some (.slice (some ⟨b, 0, none⟩) 3 3) := by rw [hW2, hcb]; simp [go_sem]
    have ya : W2.cell? ⟨cb + 1 + 1, 0, none⟩ = some (.int .i64 (i : Int)) := by rw [hW2, hcb]; simp [go_sem]
    have yb : W2.cell? ⟨cb + 1 + 1, 1, none⟩ = some (.int .i64 (k : Int)) := by rw [hW2, hcb]; simp [go_sem]
    have hkf2 : KeepsFrom W1.heap.size X W2 := by rw [hW2]; exact (((KeepsOthers.alloc _ _).trans (KeepsOthers.alloc _ _)).trans (KeepsOthers.alloc _ _)).from _
    have hk2 : Keep (fun _ k => k = w.heap.size + 1) X W2 := ⟨hB2.size, fun j hj _ => hB2.block j hj, fun _ _ h => h⟩
    have htab2 := htab.kept (grown_none hB2) (by simp)
    rw [← hW2, ← hcb]
    clear hW2
    have HCB := hid hcb
    have cbs : w.heap.size + 2 < cb := by omega
    have cbx : Bx < cb := by omega
    have cW : W1.heap.size ≤ cb := by omega
    have zB2 : cb + 3 ≤ W2.heap.size := by omega
    clear hcb s2
    let I2 : List (Nat × Nat) → World → Prop := fun pre2 Y => (∃ v, Boxed Y cb 41 v ∧ Y.ownsRow cb 3 1 v pre2.length (pre2.map fun s => .int .i64 ((priceAt L R i k s : Int) + restM L R (i + s.1) (k + s.2)))) ∧ TableAt Y (w.heap.size + 1) pre.length (restM L R) pre ∧
      Y.cell? ⟨w.heap.size + 1 + 1, 0, none⟩ = some (.map (some (w.heap.size + 1))) ∧ PB Y ∧ (Y.cell? ⟨Bx, 0, none⟩ = some (.int .i64 (i : Int)) ∧ Y.cell? ⟨Bx, 1, none⟩ = some (.int .i64 (k : Int))) ∧ Below w.heap.size w Y ∧ KeepsFrom W1.heap.size X Y ∧ Keep (fun _ k => k = w.heap.size + 1) X Y
    have hI2 : OwnFrom W2.heap.size I2 := fun s A A' row hs hg hr => by
      have hr' : ∀ r, row = some r → ∃ o : Obj, A.heap[r]? = some o ∧ o.isCells = false := fun r e => (hr r e).2
      have hne : ∀ r, row = some r → cb + 3 ≤ r := fun r e => by have := (hr r e).1; omega
      obtain ⟨⟨v, hv, hrow⟩, ht, hm, hp, hx, hb, hkf, hkp⟩ := hs
      refine ⟨⟨v, book_boxed hv hg hr', book_owns hrow hg hr'⟩, ht.kept hg (fun e => ?_), cell_kept hm hg hr', hPB _ _ _ hp hg hr', ⟨cell_kept hx.1 hg hr', cell_kept hx.2 hg hr'⟩, hb.grown hg hb.size (fun r e => ?_), (ownFrom_keepsFrom (β := Unit) (B := W1.heap.size) (B' := W2.heap.size) (w₀ := X) hB2.size) () A A' row hkf hg hr,
        ⟨Nat.le_trans hkp.size hg.size, fun j hj hj2 => (hg.block j (Nat.lt_of_lt_of_le hj hkp.size) (fun e => ?_)).trans (hkp.same j hj hj2), fun _ _ h => h⟩⟩
      · have := hne _ e.symm; omega
      · have := hne r e; omega
      · have := hne _ e.symm; have := HCB.out; omega
    have hM2 : MineOk W2.heap.size I2 (Mine cb) := mine_ok (t := 41) (n₀ := cb) (e := 3) (size := 1) fun s Y h => by
      obtain ⟨⟨v, hv, hrow⟩, _⟩ := h
      exact ⟨v, _, _, hv, hrow⟩
    have hr2 : W2.heap[l]? = some (.loop r) := (hB2.block l (Array.getElem?_eq_some_iff.1 hr).1).trans hr
    refine rangeN (l₀ := l) (r₀ := r) rfl hr2 (by omega) (gf := 112) (lb := #[.pointer (some ⟨cb + 1, 0, none⟩), .pointer (some ⟨cb + 1 + 1, 0, none⟩)]) rfl (hF _) (enters_of Try.func112 (by kernel_rfl) rfl)
      ((next_seq hF hro hd hc (by omega) (cb + 1) (cb + 1 + 1) nl cl nr cr i k 3 3 la ra (some ⟨b, 0, none⟩) hnl hnr hcl hcr (by have := HXS.out; omega) (by have := HXS.out; omega) W2 y0 y1 y2 y3 y4 y5 y6 ya yb).inRound l) (Below.refl _ _) (fun _ => rfl) I2 (fun _ _ _ => False) hI2 (fun _ _ _ _ _ h _ _ => h)
      (Mine cb) hM2 ?hres2 ⟨⟨_, bc, World.ownsRow_nil _ _ _ _⟩, htab2, cell_grown hB2 hmx, ⟨cell_grown hB2 p0, cell_grown hB2 p1, cell_grown hB2 p2, cell_grown hB2 p3, cell_grown hB2 p4, cell_grown hB2 p5, cell_grown hB2 p6⟩, ⟨cell_grown hB2 x0, cell_grown hB2 x1⟩, hB.trans (hB2.mono hB.size), hkf2, hk2⟩
      (fun s a' Y => ∃ Bm, ¬ Mine cb Y Bm ∧ (∃ q, I2 q Y) ∧ (Y.cell? ⟨Bm, 0, none⟩ = some (.int .i64 (s.1 : Int)) ∧ Y.cell? ⟨Bm, 1, none⟩ = some (.int .i64 (s.2 : Int)) ∧ Y.cell? ⟨Bm, 2, none⟩ = some (.slice (subA la cl i 2) s.1 (cl - i)) ∧ Y.cell? ⟨Bm, 3, none⟩ = some (.int .u8 0) ∧ Y.cell? ⟨Bm, 4, none⟩ = some (.int .i64 (i : Int)) ∧ Y.cell? ⟨Bm, 5, none⟩ = some (.slice (subA ra cr k 2) s.2 (cr - k)) ∧ Y.cell? ⟨Bm, 6, none⟩ = some (.int .u8 1) ∧ Y.cell? ⟨Bm, 7, none⟩ = some (.int .i64 (k : Int))) ∧
        a' = { tmps := #[.agg #[.slice la nl cl, .int .u8 0, .int .i64 0, .slice ra nr cr, .int .u8 1, .int .i64 0, .slice (some ⟨b, 0, none⟩) 3 3], .pointer (some ⟨w.heap.size, 0, none⟩), .map none, .pointer (some ⟨w.heap.size + 1 + 1, 0, none⟩), .pointer (some ⟨Bx, 0, none⟩), .pointer (some ⟨cb, 0, none⟩), .pointer (some ⟨Bm, 0, none⟩), .map (some (w.heap.size + 1)), .agg #[.slice la nl cl, .int .u8 0, .int .i64 0, .slice ra nr cr, .int .u8 1, .int .i64 0, .slice (some ⟨b, 0, none⟩) 3 3], .func (.func 123) #[] #[.pointer (some ⟨w.heap.size + 1 + 1 + 1, 0, none⟩)], .agg #[.int .i64 (i : Int), .int .i64 (k : Int)], .agg #[.slice la nl cl, .int .u8 0, .int .i64 0, .slice ra nr cr, .int .u8 1, .int .i64 0, .slice (some ⟨b, 0, none⟩) 3 3], .agg #[.int .i64 (i : Int), .int .i64 (k : Int)], .func (.func 112) #[] #[.pointer (some ⟨cb + 1, 0, none⟩), .pointer (some ⟨cb + 1 + 1, 0, none⟩)], .agg #[.int .i64 (s.1 : Int), .int .i64 (s.2 : Int), .slice (subA la cl i 2) s.1 (cl - i), .int .u8 0, .int .i64 (i : Int), .slice (subA ra cr k 2) s.2 (cr - k), .int .u8 1, .int .i64 (k : Int)], undef, undef, undef, undef, undef, undef, undef, undef, undef, undef, undef, undef, undef, undef, undef, undef], defers := [] })
      ?hAx2 ?assign2 ?body2 ?done2 ?stop2
    case hres2 =>
      rintro j (rfl | rfl) hm
      · rcases (mine_iff bc _).1 hm with e | e
        · omega
        · simp [Value.ownBlock] at e
      · rcases (mine_iff bc _).1 hm with e | e
        · omega
        · simp [Value.ownBlock] at e
    case hAx2 =>
      rintro s a' u A A' row ⟨Bm, hm, ⟨q, hq⟩, ⟨c0, c1, c2, c3, c4, c5, c6, c7⟩, e⟩ hg hr
      have hr' : ∀ r, row = some r → ∃ o : Obj, A.heap[r]? = some o ∧ o.isCells = false := fun r e => (hr r e).2
      exact ⟨Bm, fun h => hm (hM2.grown q A A' row Bm hq hg hr h), ⟨q, hI2 _ _ _ row hq hg hr⟩, ⟨cell_kept c0 hg hr', cell_kept c1 hg hr', cell_kept c2 hg hr', cell_kept c3 hg hr', cell_kept c4 hg hr', cell_kept c5 hg hr', cell_kept c6 hg hr', cell_kept c7 hg hr'⟩, e⟩
    case assign2 =>
      intro l2 pre2 s Y K hi hY hK
      dsimp only [encMove]
      gi_wp2
      exact hK _ (Y.alloc (.cells #[.int .i64 (s.1 : Int), .int .i64 (s.2 : Int), .slice (subA la cl i 2) s.1 (cl - i), .int .u8 0, .int .i64 (i : Int), .slice (subA ra cr k 2) s.2 (cr - k), .int .u8 1, .int .i64 (k : Int)] 155)) ((KeepsOthers.alloc _ _).from _) (hM2.alloc hi _) (OwnFrom.alloc hI2 _ hi) ⟨Y.heap.size, hM2.fresh hi _, ⟨pre2, OwnFrom.alloc hI2 _ hi⟩, ⟨by rw [World.cell?_alloc_new]; rfl, by rw [World.cell?_alloc_new]; rfl, by rw [World.cell?_alloc_new]; rfl, by rw [World.cell?_alloc_new]; rfl, by rw [World.cell?_alloc_new]; rfl, by rw [World.cell?_alloc_new]; rfl, by rw [World.cell?_alloc_new]; rfl, by rw [World.cell?_alloc_new]; rfl⟩, rfl⟩
    case stop2 =>
      rintro c q Y hq h
      exact h.elim
    case body2 =>
      rintro l2 pre2 ⟨s1, s2⟩ rest2 a2 Y hxs2 hY hl2 ⟨r2, hr2'⟩ hi2 ⟨Bm, hBm, -, ⟨c0, c1, c2, c3, c4, c5, c6, c7⟩, rfl⟩
      obtain ⟨⟨v, hv, hrow⟩, ht, hm, ⟨p0, p1, p2, p3, p4, p5, p6⟩, ⟨x0, x1⟩, hb, hkf, hkp⟩ := id hi2
      simp only at c0 c1 c2 c3 c4 c5 c6 c7
      have hsm : (s1, s2) ∈ movesM nl nr i k := by rw [hxs2]; simp
      have hmv := mem_moves hsm
      simp only at hmv
      obtain ⟨m1, m2, m3, m4, m5⟩ := hmv
      have hlen : pre2.length + 1 ≤ 5 := by
        have h5 : (movesM nl nr i k).length ≤ 5 := List.length_filter_le _ _
        rw [hxs2] at h5
        simp at h5
        omega
      have hmem : (i + s1, k + s2) ∈ pre := HXS.out.2.2 _ _ m1 m2 (by omega)
      have np : ¬ Mine cb Y w.heap.size := not_mine_old hv hrow (by omega)
      have nm : ¬ Mine cb Y (w.heap.size + 1 + 1) := not_mine_old hv hrow (by omega)
      have nt : ¬ Mine cb Y (w.heap.size + 1) := not_mine_old hv hrow (by omega)
      have nx : ¬ Mine cb Y Bx := not_mine_old hv hrow (by omega)
      have hprice : ∀ Z, Below Y.heap.size Y Z → CallsIn F (n - 1 - 1 - 1 - 1 - 1) Try.prog 81 #[.agg #[.slice la nl cl, .int .u8 0, .int .i64 0, .slice ra nr cr, .int .u8 1, .int .i64 0, .slice (some ⟨b, 0, none⟩) 3 3], .agg #[.int .i64 (s1 : Int), .int .i64 (s2 : Int), .slice (subA la cl i 2) s1 (cl - i), .int .u8 0, .int .i64 (i : Int), .slice (subA ra cr k 2) s2 (cr - k), .int .u8 1, .int .i64 (k : Int)]] Z fun e w' => e = .returned (.int .i64 (priceAt L R i k (s1, s2) : Nat)) ∧ Below Z.heap.size Z w' := fun Z hZ => hc (by
        have hbz := hb.trans (hZ.mono hb.size)
        exact price_any ((L.drop i).take s1) ((R.drop k).take s2) s1 s2 0 1 0 1 s1 (cl - i) s2 (cr - k) b b0 b2 nl cl nr cr i k 0 0 (subA la cl i 2) (subA ra cr k 2) la ra Z m4 m5 (by simp; omega) (by simp; omega) (fL.part _ _) (fR.part _ _) ((hS.grown hbz).part hL hcl i s1 m1) ((hT.grown hbz).part hR hcr k s2 m2) (hC.grown hbz))
      have hbehind : ∀ Z, CallsIn F (n - 1 - 1 - 1 - 1 - 1) Try.prog 82 #[.agg #[.int .i64 (s1 : Int), .int .i64 (s2 : Int), .slice (subA la cl i 2) s1 (cl - i), .int .u8 0, .int .i64 (i : Int), .slice (subA ra cr k 2) s2 (cr - k), .int .u8 1, .int .i64 (k : Int)]] Z fun e w' => e = .returned (.agg #[.int .i64 ((i + s1 : Nat) : Int), .int .i64 ((k + s2 : Nat) : Int)]) ∧ Below Z.heap.size Z w' := fun Z => hc (behind_any s1 s2 0 1 s1 (cl - i) i s2 (cr - k) k (subA la cl i 2) (subA ra cr k 2) Z (by omega) (by omega) (by omega) (by omega))
      have hlook : ∀ Z, Below Y.heap.size Y Z → (Instr.lookup 146 (.map (some (w.heap.size + 1))) (.agg #[.int .i64 ((i + s1 : Nat) : Int), .int .i64 ((k + s2 : Nat) : Int)]) false).run Try.prog Z = .ok (.int .i64 (restM L R (i + s1) (k + s2))) Z := fun Z hZ => (ht.kept (grown_none hZ) (by simp)).look hmem
      have hlk10 : ∀ Z, TableAt Z (w.heap.size + 1) pre.length (restM L R) pre → (Instr.lookup 146 (.map (some (w.heap.size + 1))) (.agg #[.int .i64 ((i + s1 : Nat) : Int), .int .i64 ((k + s2 : Nat) : Int)]) false).run Try.prog Z = .ok (.int .i64 (restM L R (i + s1) (k + s2))) Z := fun Z hZ => hZ.look hmem
      obtain ⟨f, hf⟩ : ∃ f, f = restM L R (i + s1) (k + s2) := ⟨_, rfl⟩
      have hf' := hf
      obtain ⟨z, hz⟩ : ∃ z, z = priceAt L R i k (s1, s2) := ⟨_, rfl⟩
      have hfb := restM_bd L R fL.1 fR.1 (i + s1) (k + s2)
      have hzb : priceAt L R i k (s1, s2) ≤ 2060 := priceM_le _ _ _ _
      have HCOST : Hid ((priceAt L R i k (s1, s2) : Int) + restM L R (i + s1) (k + s2) = (z : Int) + f) := hid (by rw [hf', hz])
      obtain ⟨iu, hiu⟩ : ∃ u, u = i + s1 := ⟨_, rfl⟩
      obtain ⟨ku, hku⟩ : ∃ u, u = k + s2 := ⟨_, rfl⟩
      rw [← hiu, ← hku] at hlook hlk10 hfb hf
      have hbehind' := hbehind
      clear hbehind
      rw [← hiu, ← hku] at hbehind'
      have hbehind := hbehind'
      clear hbehind'
      clear hiu hku
      rw [← hf] at hlook hlk10 hfb
      rw [← hz] at hprice hzb
      clear hf hf' hz hsm
      have hwr : IntKind.i64.wrap ((z : Int) + f) = (z : Int) + f := by rw [IntKind.wrap_i64]; omega
      have hb0 : Below Y.heap.size Y Y.drew := (Below.refl _ _).drew
      gi_wp2_with fail
      refine region_held (S := fun w' : World => w'.cell? ⟨w.heap.size, 0, none⟩ = some (.slice la nl cl) ∧ w'.cell? ⟨w.heap.size, 1, none⟩ = some (.int .u8 0) ∧ w'.cell? ⟨w.heap.size, 2, none⟩ = some (.int .i64 0) ∧ w'.cell? ⟨w.heap.size, 3, none⟩ = some (.slice ra nr cr) ∧ w'.cell? ⟨w.heap.size, 4, none⟩ = some (.int .u8 1) ∧ w'.cell? ⟨w.heap.size, 5, none⟩ = some (.int .i64 0) ∧ w'.cell? ⟨w.heap.size, 6, none⟩ = some (.slice (some ⟨b, 0, none⟩) 3 3) ∧ w'.cell? ⟨w.heap.size + 1 + 1, 0, none⟩ = some (.map (some (w.heap.size + 1))) ∧ w'.cell? ⟨Bm, 0, none⟩ = some (.int .i64 (s1 : Int)) ∧ w'.cell? ⟨Bm, 1, none⟩ = some (.int .i64 (s2 : Int)) ∧ w'.cell? ⟨Bm, 2, none⟩ = some (.slice (subA la cl i 2) s1 (cl - i)) ∧ w'.cell? ⟨Bm, 3, none⟩ = some (.int .u8 0) ∧ w'.cell? ⟨Bm, 4, none⟩ = some (.int .i64 (i : Int)) ∧ w'.cell? ⟨Bm, 5, none⟩ = some (.slice (subA ra cr k 2) s2 (cr - k)) ∧ w'.cell? ⟨Bm, 6, none⟩ = some (.int .u8 1) ∧ w'.cell? ⟨Bm, 7, none⟩ = some (.int .i64 (k : Int)) ∧ (Instr.lookup 146 (.map (some (w.heap.size + 1))) (.agg #[.int .i64 (iu : Int), .int .i64 (ku : Int)]) false).run Try.prog w' = .ok (.int .i64 f) w') (by kernel_rfl) ⟨cell_grown hb0 p0, cell_grown hb0 p1, cell_grown hb0 p2, cell_grown hb0 p3, cell_grown hb0 p4, cell_grown hb0 p5, cell_grown hb0 p6, cell_grown hb0 hm, cell_grown hb0 c0, cell_grown hb0 c1, cell_grown hb0 c2, cell_grown hb0 c3, cell_grown hb0 c4, cell_grown hb0 c5, cell_grown hb0 c6, cell_grown hb0 c7, hlook _ hb0⟩ (fun hHeld => ?_)
      refine held_take (i := 1) (v := ?_) (plain_of (by kernel_rfl)) rfl (by kernel_rfl) (by kernel_rfl) (by kernel_rfl) (fun _ _ _ h => h) (Or.inl ⟨by rfl, ?_⟩) (fun _ => rfl) (by assumption) ?_
      rotate_left 1
      · intro w hSw
        (try dsimp only at hSw)
        go_simp
        all_goals (with_reducible rfl)
      try simp only [Act.put, List.setIfInBounds_toArray, List.set_cons_zero, List.set_cons_succ]
      refine held_take (i := 2) (v := ?_) (plain_of (by kernel_rfl)) rfl (by kernel_rfl) (by kernel_rfl) (by kernel_rfl) (fun _ _ _ h => h) (Or.inl ⟨by rfl, ?_⟩) (fun _ => rfl) (by assumption) ?_
      rotate_left 1
      · intro w hSw
        (try dsimp only at hSw)
        go_simp
        all_goals (with_reducible rfl)
      try simp only [Act.put, List.setIfInBounds_toArray, List.set_cons_zero, List.set_cons_succ]
      refine held_take (i := 4) (v := ?_) (plain_of (by kernel_rfl)) rfl (by kernel_rfl) (by kernel_rfl) (by kernel_rfl) (fun _ _ _ h => h) (Or.inl ⟨by rfl, ?_⟩) (fun _ => rfl) (by assumption) ?_
      rotate_left 1
      · intro w hSw
        (try dsimp only at hSw)
        go_simp
        all_goals (with_reducible rfl)
      try simp only [Act.put, List.setIfInBounds_toArray, List.set_cons_zero, List.set_cons_succ]
      refine held_take (i := 5) (v := ?_) (plain_of (by kernel_rfl)) rfl (by kernel_rfl) (by kernel_rfl) (by kernel_rfl) (fun _ _ _ h => h) (Or.inl ⟨by rfl, ?_⟩) (fun _ => rfl) (by assumption) ?_
      rotate_left 1
      · intro w hSw
        (try dsimp only at hSw)
        go_simp
        all_goals (with_reducible rfl)
      try simp only [Act.put, List.setIfInBounds_toArray, List.set_cons_zero, List.set_cons_succ]
      refine held_two (i := 0) (j := 3) (by kernel_rfl) rfl rfl (fun K hK => ?_) (fun K hK => ?_)
      · have kc := cell_grown hb0 hv.cell
        rw [if_pos (by rfl)]
        unfold Oper.wpIn
        refine ⟨fun f _ => hF f, ?_⟩
        go_simp
        refine hK.out _ _ ?_ (fun hHeld => ?_)
        · exact ⟨cell_grown hb0 p0, cell_grown hb0 p1, cell_grown hb0 p2, cell_grown hb0 p3, cell_grown hb0 p4, cell_grown hb0 p5, cell_grown hb0 p6, cell_grown hb0 hm, cell_grown hb0 c0, cell_grown hb0 c1, cell_grown hb0 c2, cell_grown hb0 c3, cell_grown hb0 c4, cell_grown hb0 c5, cell_grown hb0 c6, cell_grown hb0 c7, hlook _ hb0⟩
        clear hK K
        try simp only [Act.put, List.setIfInBounds_toArray, List.set_cons_zero, List.set_cons_succ]
        refine held_one (i := 3) (by kernel_rfl) rfl (fun K hK => ?_)
        rw [if_pos (by rfl)]
        unfold Oper.wpIn
        refine ⟨fun f _ => hF f, ?_⟩
        go_simp
        refine (CallsIn.inRound l2 (CallsIn.inRound l (hprice _ hb0))).mono ?_
        rintro e wp ⟨rfl, hbp⟩
        have hbP := below_then hb0 hbp
        clear hHeld hbp
        refine hK.out _ _ ?_ (fun hHeld => ?_)
        · exact ⟨cell_grown hbP p0, cell_grown hbP p1, cell_grown hbP p2, cell_grown hbP p3, cell_grown hbP p4, cell_grown hbP p5, cell_grown hbP p6, cell_grown hbP hm, cell_grown hbP c0, cell_grown hbP c1, cell_grown hbP c2, cell_grown hbP c3, cell_grown hbP c4, cell_grown hbP c5, cell_grown hbP c6, cell_grown hbP c7, hlook _ hbP⟩
        clear hK K
        try simp only [Act.put, List.setIfInBounds_toArray, List.set_cons_zero, List.set_cons_succ]
        refine held_one (i := 6) (by kernel_rfl) rfl (fun K hK => ?_)
        rw [if_pos (by rfl)]
        unfold Oper.wpIn
        refine ⟨fun f _ => hF f, ?_⟩
        go_simp
        refine (CallsIn.inRound l2 (CallsIn.inRound l (hbehind _))).mono ?_
        rintro e wq ⟨rfl, hbq⟩
        have hbQ := below_then hbP hbq
        clear hHeld hbq
        refine hK.out _ _ ?_ (fun hHeld => ?_)
        · exact ⟨cell_grown hbQ p0, cell_grown hbQ p1, cell_grown hbQ p2, cell_grown hbQ p3, cell_grown hbQ p4, cell_grown hbQ p5, cell_grown hbQ p6, cell_grown hbQ hm, cell_grown hbQ c0, cell_grown hbQ c1, cell_grown hbQ c2, cell_grown hbQ c3, cell_grown hbQ c4, cell_grown hbQ c5, cell_grown hbQ c6, cell_grown hbQ c7, hlook _ hbQ⟩
        clear hK K
        try simp only [Act.put, List.setIfInBounds_toArray, List.set_cons_zero, List.set_cons_succ]
        refine held_take (i := 7) (v := ?_) (plain_of (by kernel_rfl)) rfl (by kernel_rfl) (by kernel_rfl) (by kernel_rfl) (fun _ _ _ h => h) (Or.inl ⟨by rfl, ?_⟩) (fun _ => rfl) (by assumption) ?_
        rotate_left 1
        · intro w hSw
          (try dsimp only at hSw)
          go_simp
          all_goals (with_reducible rfl)
        try simp only [Act.put, List.setIfInBounds_toArray, List.set_cons_zero, List.set_cons_succ]
        refine held_take (i := 8) (v := ?_) (plain_of (by kernel_rfl)) rfl (by kernel_rfl) (by kernel_rfl) (by kernel_rfl) (fun _ _ _ h => h) (Or.inl ⟨by rfl, ?_⟩) (fun _ => rfl) (by assumption) ?_
        rotate_left 1
        · intro w hSw
          (try dsimp only at hSw)
          go_simp
          all_goals (with_reducible rfl)
        try simp only [Act.put, List.setIfInBounds_toArray, List.set_cons_zero, List.set_cons_succ]
        refine held_one (i := 9) (by kernel_rfl) rfl (fun K hK => ?_)
        rw [if_pos (by rfl)]
        unfold Oper.wpIn
        refine ⟨fun f _ => hF f, ?_⟩
        go_simp
        have hb9 := below_then hbQ (below_alloc wq (.cells #[.int .i64 ((z : Int) + f)] 3))
        refine hK.out _ _ ?_ (fun hHeld => ?_)
        · exact ⟨cell_grown hb9 p0, cell_grown hb9 p1, cell_grown hb9 p2, cell_grown hb9 p3, cell_grown hb9 p4, cell_grown hb9 p5, cell_grown hb9 p6, cell_grown hb9 hm, cell_grown hb9 c0, cell_grown hb9 c1, cell_grown hb9 c2, cell_grown hb9 c3, cell_grown hb9 c4, cell_grown hb9 c5, cell_grown hb9 c6, cell_grown hb9 c7, hlook _ hb9⟩
        clear hK K
        try simp only [Act.put, List.setIfInBounds_toArray, List.set_cons_zero, List.set_cons_succ]
        have hrow4 := book_owns hrow (grown_none hbQ) (fun r e => by cases e)
        have hv4 := book_boxed hv (grown_none hbQ) (fun r e => by cases e)
        have hcw : cb ≤ wq.heap.size := Nat.le_of_lt (Nat.lt_of_lt_of_le hv.lt hbQ.size)
        obtain ⟨v', w10, hrun, hown', hgrow, -⟩ := run_append_own (P := Try.prog) (wq.alloc (.cells #[.int .i64 ((z : Int) + f)] 3)) cb 41 41 3 i0 (.int .i64 0) 1 8 Try.underlying41 hi hz0 hz1 hz2 rfl (by decide) v pre2.length _ (hrow4.alloc _) ⟨wq.heap.size, 0, none⟩ 1 1 [.int .i64 ((z : Int) + f)] rfl (cell_one_new _ _ _) (by simp [Value.oneCell']) (by unfold maxLen; omega) (by omega) (by simp; omega)
        have hat := append_block (wq.alloc (.cells #[.int .i64 ((z : Int) + f)] 3)) cb 41 41 3 i0 (.int .i64 0) 1 8 Try.underlying41 hi hz0 hz1 hz2 v pre2.length _ (hrow4.alloc _) ⟨wq.heap.size, 0, none⟩ 1 1 [.int .i64 ((z : Int) + f)] rfl (cell_one_new _ _ _) (by simp [Value.oneCell']) (by decide) (by unfold maxLen; omega) (by omega) v' w10 hrun
        obtain ⟨g', cap', rfl⟩ := ownsRow_succ hown'
        obtain ⟨hv1, hv2, hr2', hkk, hbb⟩ := hv4.appended (by decide) hrow4 hcw (Nat.le_refl _) hown' hgrow
        have hKF := (hM2.below hi2 hbQ).trans (mine_appended hv4 (by decide) hrow4 hcw (Nat.le_refl _) hown' hgrow hat)
        have hvc := hv1.cell
        have hvf := hv1.frozen
        have hK10 : ∀ j o u, Y.cell? ⟨j, o, none⟩ = some u → ¬ Mine cb Y j → w10.cell? ⟨j, o, none⟩ = some u := fun j o u hcell hnot => (World.cell?_of_block (w := wq.alloc (.cells #[.int .i64 ((z : Int) + f)] 3)) (a := ⟨j, o, none⟩) (hgrow.block j (Nat.lt_of_lt_of_le (lt_of_cell hcell) hb9.size) (fun e => hnot ((mine_iff hv j).2 (.inr e.symm))))).trans (cell_grown hb9 hcell)
        have ht10 : TableAt w10 (w.heap.size + 1) pre.length (restM L R) pre := (ht.kept (grown_none hb9) (by simp)).kept hgrow (fun e => nt ((mine_iff hv _).2 (.inr e.symm)))
        refine held_one (i := 10) (by kernel_rfl) rfl (fun K hK => ?_)
        rw [if_pos (by rfl)]
        refine opIn_append _ _ _ rfl v _ _ rfl rfl hrun ?_
        refine hK.out _ _ ?_ (fun hHeld => ?_)
        · exact ⟨hK10 _ _ _ p0 np, hK10 _ _ _ p1 np, hK10 _ _ _ p2 np, hK10 _ _ _ p3 np, hK10 _ _ _ p4 np, hK10 _ _ _ p5 np, hK10 _ _ _ p6 np, hK10 _ _ _ hm nm, hK10 _ _ _ c0 hBm, hK10 _ _ _ c1 hBm, hK10 _ _ _ c2 hBm, hK10 _ _ _ c3 hBm, hK10 _ _ _ c4 hBm, hK10 _ _ _ c5 hBm, hK10 _ _ _ c6 hBm, hK10 _ _ _ c7 hBm, hlk10 _ ht10⟩
        clear hK K
        try simp only [Act.put, List.setIfInBounds_toArray, List.set_cons_zero, List.set_cons_succ]
        refine held_one (i := 11) (by kernel_rfl) rfl (fun K hK => ?_)
        rw [if_pos (by rfl)]
        unfold Oper.wpIn
        refine ⟨fun f _ => hF f, ?_⟩
        go_simp
        have htF := ht10.setCell (a := ⟨cb, 0, none⟩) (show w.heap.size + 1 ≠ cb by omega) (.slice (some ⟨g', 0, none⟩) (pre2.length + 1) cap')
        refine hK.out _ _ ?_ (fun hHeld => ?_)
        · exact ⟨hKF.toC _ _ _ p0 np, hKF.toC _ _ _ p1 np, hKF.toC _ _ _ p2 np, hKF.toC _ _ _ p3 np, hKF.toC _ _ _ p4 np, hKF.toC _ _ _ p5 np, hKF.toC _ _ _ p6 np, hKF.toC _ _ _ hm nm, hKF.toC _ _ _ c0 hBm, hKF.toC _ _ _ c1 hBm, hKF.toC _ _ _ c2 hBm, hKF.toC _ _ _ c3 hBm, hKF.toC _ _ _ c4 hBm, hKF.toC _ _ _ c5 hBm, hKF.toC _ _ _ c6 hBm, hKF.toC _ _ _ c7 hBm, hlk10 _ htF⟩
        clear hK K
        try simp only [Act.put, List.setIfInBounds_toArray, List.set_cons_zero, List.set_cons_succ]
        refine held_done (by kernel_rfl) ?_ _
        try simp only [Exit.inBlock, Exit.then]
        refine ⟨(KeepsFrom.of_grownBy (grown_none hbQ) (fun j e => by cases e)).trans (hkk.from _), hKF, ?_⟩
        have hX := HCB.out
        refine ⟨⟨_, hv2, by simpa [HCOST.out] using hr2'⟩, htF, hKF.toC _ _ _ hm nm, ⟨hKF.toC _ _ _ p0 np, hKF.toC _ _ _ p1 np, hKF.toC _ _ _ p2 np, hKF.toC _ _ _ p3 np, hKF.toC _ _ _ p4 np, hKF.toC _ _ _ p5 np, hKF.toC _ _ _ p6 np⟩, ⟨hKF.toC _ _ _ x0 nx, hKF.toC _ _ _ x1 nx⟩, (hb.trans (hbQ.mono hb.size)).trans (hbb.mono (by omega)), hkf.trans ((KeepsFrom.of_grownBy (grown_none hbQ) (fun j e => by cases e)).trans (hkk.from _)),
          ⟨Nat.le_trans hkp.size hKF.size, fun j hj hj2 => (hbb.block j (by omega)).trans ((hbQ.block j (Nat.lt_of_lt_of_le hj hkp.size)).trans (hkp.same j hj hj2)), fun _ _ h => h⟩⟩
      · rw [if_pos (by rfl)]
        unfold Oper.wpIn
        refine ⟨fun f _ => hF f, ?_⟩
        go_simp
        refine (CallsIn.inRound l2 (CallsIn.inRound l (hprice _ hb0))).mono ?_
        rintro e wp ⟨rfl, hbp⟩
        have hbP := below_then hb0 hbp
        clear hHeld hbp
        refine hK.out _ _ ?_ (fun hHeld => ?_)
        · exact ⟨cell_grown hbP p0, cell_grown hbP p1, cell_grown hbP p2, cell_grown hbP p3, cell_grown hbP p4, cell_grown hbP p5, cell_grown hbP p6, cell_grown hbP hm, cell_grown hbP c0, cell_grown hbP c1, cell_grown hbP c2, cell_grown hbP c3, cell_grown hbP c4, cell_grown hbP c5, cell_grown hbP c6, cell_grown hbP c7, hlook _ hbP⟩
        clear hK K
        try simp only [Act.put, List.setIfInBounds_toArray, List.set_cons_zero, List.set_cons_succ]
        refine held_two (i := 0) (j := 6) (by kernel_rfl) rfl rfl (fun K hK => ?_) (fun K hK => ?_)
        · have kc := cell_grown hbP hv.cell
          rw [if_pos (by rfl)]
          unfold Oper.wpIn
          refine ⟨fun f _ => hF f, ?_⟩
          go_simp
          refine hK.out _ _ ?_ (fun hHeld => ?_)
          · exact ⟨cell_grown hbP p0, cell_grown hbP p1, cell_grown hbP p2, cell_grown hbP p3, cell_grown hbP p4, cell_grown hbP p5, cell_grown hbP p6, cell_grown hbP hm, cell_grown hbP c0, cell_grown hbP c1, cell_grown hbP c2, cell_grown hbP c3, cell_grown hbP c4, cell_grown hbP c5, cell_grown hbP c6, cell_grown hbP c7, hlook _ hbP⟩
          clear hK K
          try simp only [Act.put, List.setIfInBounds_toArray, List.set_cons_zero, List.set_cons_succ]
          refine held_one (i := 6) (by kernel_rfl) rfl (fun K hK => ?_)
          rw [if_pos (by rfl)]
          unfold Oper.wpIn
          refine ⟨fun f _ => hF f, ?_⟩
          go_simp
          refine (CallsIn.inRound l2 (CallsIn.inRound l (hbehind _))).mono ?_
          rintro e wq ⟨rfl, hbq⟩
          have hbQ := below_then hbP hbq
          clear hHeld hbq
          refine hK.out _ _ ?_ (fun hHeld => ?_)
          · exact ⟨cell_grown hbQ p0, cell_grown hbQ p1, cell_grown hbQ p2, cell_grown hbQ p3, cell_grown hbQ p4, cell_grown hbQ p5, cell_grown hbQ p6, cell_grown hbQ hm, cell_grown hbQ c0, cell_grown hbQ c1, cell_grown hbQ c2, cell_grown hbQ c3, cell_grown hbQ c4, cell_grown hbQ c5, cell_grown hbQ c6, cell_grown hbQ c7, hlook _ hbQ⟩
          clear hK K
          try simp only [Act.put, List.setIfInBounds_toArray, List.set_cons_zero, List.set_cons_succ]
          refine held_take (i := 7) (v := ?_) (plain_of (by kernel_rfl)) rfl (by kernel_rfl) (by kernel_rfl) (by kernel_rfl) (fun _ _ _ h => h) (Or.inl ⟨by rfl, ?_⟩) (fun _ => rfl) (by assumption) ?_
          rotate_left 1
          · intro w hSw
            (try dsimp only at hSw)
            go_simp
            all_goals (with_reducible rfl)
          try simp only [Act.put, List.setIfInBounds_toArray, List.set_cons_zero, List.set_cons_succ]
          refine held_take (i := 8) (v := ?_) (plain_of (by kernel_rfl)) rfl (by kernel_rfl) (by kernel_rfl) (by kernel_rfl) (fun _ _ _ h => h) (Or.inl ⟨by rfl, ?_⟩) (fun _ => rfl) (by assumption) ?_
          rotate_left 1
          · intro w hSw
            (try dsimp only at hSw)
            go_simp
            all_goals (with_reducible rfl)
          try simp only [Act.put, List.setIfInBounds_toArray, List.set_cons_zero, List.set_cons_succ]
          refine held_one (i := 9) (by kernel_rfl) rfl (fun K hK => ?_)
          rw [if_pos (by rfl)]
          unfold Oper.wpIn
          refine ⟨fun f _ => hF f, ?_⟩
          go_simp
          have hb9 := below_then hbQ (below_alloc wq (.cells #[.int .i64 ((z : Int) + f)] 3))
          refine hK.out _ _ ?_ (fun hHeld => ?_)
          · exact ⟨cell_grown hb9 p0, cell_grown hb9 p1, cell_grown hb9 p2, cell_grown hb9 p3, cell_grown hb9 p4, cell_grown hb9 p5, cell_grown hb9 p6, cell_grown hb9 hm, cell_grown hb9 c0, cell_grown hb9 c1, cell_grown hb9 c2, cell_grown hb9 c3, cell_grown hb9 c4, cell_grown hb9 c5, cell_grown hb9 c6, cell_grown hb9 c7, hlook _ hb9⟩
          clear hK K
          try simp only [Act.put, List.setIfInBounds_toArray, List.set_cons_zero, List.set_cons_succ]
          have hrow4 := book_owns hrow (grown_none hbQ) (fun r e => by cases e)
          have hv4 := book_boxed hv (grown_none hbQ) (fun r e => by cases e)
          have hcw : cb ≤ wq.heap.size := Nat.le_of_lt (Nat.lt_of_lt_of_le hv.lt hbQ.size)
          obtain ⟨v', w10, hrun, hown', hgrow, -⟩ := run_append_own (P := Try.prog) (wq.alloc (.cells #[.int .i64 ((z : Int) + f)] 3)) cb 41 41 3 i0 (.int .i64 0) 1 8 Try.underlying41 hi hz0 hz1 hz2 rfl (by decide) v pre2.length _ (hrow4.alloc _) ⟨wq.heap.size, 0, none⟩ 1 1 [.int .i64 ((z : Int) + f)] rfl (cell_one_new _ _ _) (by simp [Value.oneCell']) (by unfold maxLen; omega) (by omega) (by simp; omega)
          have hat := append_block (wq.alloc (.cells #[.int .i64 ((z : Int) + f)] 3)) cb 41 41 3 i0 (.int .i64 0) 1 8 Try.underlying41 hi hz0 hz1 hz2 v pre2.length _ (hrow4.alloc _) ⟨wq.heap.size, 0, none⟩ 1 1 [.int .i64 ((z : Int) + f)] rfl (cell_one_new _ _ _) (by simp [Value.oneCell']) (by decide) (by unfold maxLen; omega) (by omega) v' w10 hrun
          obtain ⟨g', cap', rfl⟩ := ownsRow_succ hown'
          obtain ⟨hv1, hv2, hr2', hkk, hbb⟩ := hv4.appended (by decide) hrow4 hcw (Nat.le_refl _) hown' hgrow
          have hKF := (hM2.below hi2 hbQ).trans (mine_appended hv4 (by decide) hrow4 hcw (Nat.le_refl _) hown' hgrow hat)
          have hvc := hv1.cell
          have hvf := hv1.frozen
          have hK10 : ∀ j o u, Y.cell? ⟨j, o, none⟩ = some u → ¬ Mine cb Y j → w10.cell? ⟨j, o, none⟩ = some u := fun j o u hcell hnot => (World.cell?_of_block (w := wq.alloc (.cells #[.int .i64 ((z : Int) + f)] 3)) (a := ⟨j, o, none⟩) (hgrow.block j (Nat.lt_of_lt_of_le (lt_of_cell hcell) hb9.size) (fun e => hnot ((mine_iff hv j).2 (.inr e.symm))))).trans (cell_grown hb9 hcell)
          have ht10 : TableAt w10 (w.heap.size + 1) pre.length (restM L R) pre := (ht.kept (grown_none hb9) (by simp)).kept hgrow (fun e => nt ((mine_iff hv _).2 (.inr e.symm)))
          refine held_one (i := 10) (by kernel_rfl) rfl (fun K hK => ?_)
          rw [if_pos (by rfl)]
          refine opIn_append _ _ _ rfl v _ _ rfl rfl hrun ?_
          refine hK.out _ _ ?_ (fun hHeld => ?_)
          · exact ⟨hK10 _ _ _ p0 np, hK10 _ _ _ p1 np, hK10 _ _ _ p2 np, hK10 _ _ _ p3 np, hK10 _ _ _ p4 np, hK10 _ _ _ p5 np, hK10 _ _ _ p6 np, hK10 _ _ _ hm nm, hK10 _ _ _ c0 hBm, hK10 _ _ _ c1 hBm, hK10 _ _ _ c2 hBm, hK10 _ _ _ c3 hBm, hK10 _ _ _ c4 hBm, hK10 _ _ _ c5 hBm, hK10 _ _ _ c6 hBm, hK10 _ _ _ c7 hBm, hlk10 _ ht10⟩
          clear hK K
          try simp only [Act.put, List.setIfInBounds_toArray, List.set_cons_zero, List.set_cons_succ]
          refine held_one (i := 11) (by kernel_rfl) rfl (fun K hK => ?_)
          rw [if_pos (by rfl)]
          unfold Oper.wpIn
          refine ⟨fun f _ => hF f, ?_⟩
          go_simp
          have htF := ht10.setCell (a := ⟨cb, 0, none⟩) (show w.heap.size + 1 ≠ cb by omega) (.slice (some ⟨g', 0, none⟩) (pre2.length + 1) cap')
          refine hK.out _ _ ?_ (fun hHeld => ?_)
          · exact ⟨hKF.toC _ _ _ p0 np, hKF.toC _ _ _ p1 np, hKF.toC _ _ _ p2 np, hKF.toC _ _ _ p3 np, hKF.toC _ _ _ p4 np, hKF.toC _ _ _ p5 np, hKF.toC _ _ _ p6 np, hKF.toC _ _ _ hm nm, hKF.toC _ _ _ c0 hBm, hKF.toC _ _ _ c1 hBm, hKF.toC _ _ _ c2 hBm, hKF.toC _ _ _ c3 hBm, hKF.toC _ _ _ c4 hBm, hKF.toC _ _ _ c5 hBm, hKF.toC _ _ _ c6 hBm, hKF.toC _ _ _ c7 hBm, hlk10 _ htF⟩
          clear hK K
          try simp only [Act.put, List.setIfInBounds_toArray, List.set_cons_zero, List.set_cons_succ]
          refine held_done (by kernel_rfl) ?_ _
          try simp only [Exit.inBlock, Exit.then]
          refine ⟨(KeepsFrom.of_grownBy (grown_none hbQ) (fun j e => by cases e)).trans (hkk.from _), hKF, ?_⟩
          have hX := HCB.out
          refine ⟨⟨_, hv2, by simpa [HCOST.out] using hr2'⟩, htF, hKF.toC _ _ _ hm nm, ⟨hKF.toC _ _ _ p0 np, hKF.toC _ _ _ p1 np, hKF.toC _ _ _ p2 np, hKF.toC _ _ _ p3 np, hKF.toC _ _ _ p4 np, hKF.toC _ _ _ p5 np, hKF.toC _ _ _ p6 np⟩, ⟨hKF.toC _ _ _ x0 nx, hKF.toC _ _ _ x1 nx⟩, (hb.trans (hbQ.mono hb.size)).trans (hbb.mono (by omega)), hkf.trans ((KeepsFrom.of_grownBy (grown_none hbQ) (fun j e => by cases e)).trans (hkk.from _)),
            ⟨Nat.le_trans hkp.size hKF.size, fun j hj hj2 => (hbb.block j (by omega)).trans ((hbQ.block j (Nat.lt_of_lt_of_le hj hkp.size)).trans (hkp.same j hj hj2)), fun _ _ h => h⟩⟩
        · rw [if_pos (by rfl)]
          unfold Oper.wpIn
          refine ⟨fun f _ => hF f, ?_⟩
          go_simp
          refine (CallsIn.inRound l2 (CallsIn.inRound l (hbehind _))).mono ?_
          rintro e wq ⟨rfl, hbq⟩
          have hbQ := below_then hbP hbq
          clear hHeld hbq
          refine hK.out _ _ ?_ (fun hHeld => ?_)
          · exact ⟨cell_grown hbQ p0, cell_grown hbQ p1, cell_grown hbQ p2, cell_grown hbQ p3, cell_grown hbQ p4, cell_grown hbQ p5, cell_grown hbQ p6, cell_grown hbQ hm, cell_grown hbQ c0, cell_grown hbQ c1, cell_grown hbQ c2, cell_grown hbQ c3, cell_grown hbQ c4, cell_grown hbQ c5, cell_grown hbQ c6, cell_grown hbQ c7, hlook _ hbQ⟩
          clear hK K
          try simp only [Act.put, List.setIfInBounds_toArray, List.set_cons_zero, List.set_cons_succ]
          refine held_take (i := 7) (v := ?_) (plain_of (by kernel_rfl)) rfl (by kernel_rfl) (by kernel_rfl) (by kernel_rfl) (fun _ _ _ h => h) (Or.inl ⟨by rfl, ?_⟩) (fun _ => rfl) (by assumption) ?_
          rotate_left 1
          · intro w hSw
            (try dsimp only at hSw)
            go_simp
            all_goals (with_reducible rfl)
          try simp only [Act.put, List.setIfInBounds_toArray, List.set_cons_zero, List.set_cons_succ]
          refine held_take (i := 8) (v := ?_) (plain_of (by kernel_rfl)) rfl (by kernel_rfl) (by kernel_rfl) (by kernel_rfl) (fun _ _ _ h => h) (Or.inl ⟨by rfl, ?_⟩) (fun _ => rfl) (by assumption) ?_
          rotate_left 1
          · intro w hSw
            (try dsimp only at hSw)
            go_simp
            all_goals (with_reducible rfl)
          try simp only [Act.put, List.setIfInBounds_toArray, List.set_cons_zero, List.set_cons_succ]
          refine held_two (i := 0) (j := 9) (by kernel_rfl) rfl rfl (fun K hK => ?_) (fun K hK => ?_)
          · have kc := cell_grown hbQ hv.cell
            rw [if_pos (by rfl)]
            unfold Oper.wpIn
            refine ⟨fun f _ => hF f, ?_⟩
            go_simp
            refine hK.out _ _ ?_ (fun hHeld => ?_)
            · exact ⟨cell_grown hbQ p0, cell_grown hbQ p1, cell_grown hbQ p2, cell_grown hbQ p3, cell_grown hbQ p4, cell_grown hbQ p5, cell_grown hbQ p6, cell_grown hbQ hm, cell_grown hbQ c0, cell_grown hbQ c1, cell_grown hbQ c2, cell_grown hbQ c3, cell_grown hbQ c4, cell_grown hbQ c5, cell_grown hbQ c6, cell_grown hbQ c7, hlook _ hbQ⟩
            clear hK K
            try simp only [Act.put, List.setIfInBounds_toArray, List.set_cons_zero, List.set_cons_succ]
            refine held_one (i := 9) (by kernel_rfl) rfl (fun K hK => ?_)
            rw [if_pos (by rfl)]
            unfold Oper.wpIn
            refine ⟨fun f _ => hF f, ?_⟩
            go_simp
            have hb9 := below_then hbQ (below_alloc wq (.cells #[.int .i64 ((z : Int) + f)] 3))
            refine hK.out _ _ ?_ (fun hHeld => ?_)
            · exact ⟨cell_grown hb9 p0, cell_grown hb9 p1, cell_grown hb9 p2, cell_grown hb9 p3, cell_grown hb9 p4, cell_grown hb9 p5, cell_grown hb9 p6, cell_grown hb9 hm, cell_grown hb9 c0, cell_grown hb9 c1, cell_grown hb9 c2, cell_grown hb9 c3, cell_grown hb9 c4, cell_grown hb9 c5, cell_grown hb9 c6, cell_grown hb9 c7, hlook _ hb9⟩
            clear hK K
            try simp only [Act.put, List.setIfInBounds_toArray, List.set_cons_zero, List.set_cons_succ]
            have hrow4 := book_owns hrow (grown_none hbQ) (fun r e => by cases e)
            have hv4 := book_boxed hv (grown_none hbQ) (fun r e => by cases e)
            have hcw : cb ≤ wq.heap.size := Nat.le_of_lt (Nat.lt_of_lt_of_le hv.lt hbQ.size)
            obtain ⟨v', w10, hrun, hown', hgrow, -⟩ := run_append_own (P := Try.prog) (wq.alloc (.cells #[.int .i64 ((z : Int) + f)] 3)) cb 41 41 3 i0 (.int .i64 0) 1 8 Try.underlying41 hi hz0 hz1 hz2 rfl (by decide) v pre2.length _ (hrow4.alloc _) ⟨wq.heap.size, 0, none⟩ 1 1 [.int .i64 ((z : Int) + f)] rfl (cell_one_new _ _ _) (by simp [Value.oneCell']) (by unfold maxLen; omega) (by omega) (by simp; omega)
            have hat := append_block (wq.alloc (.cells #[.int .i64 ((z : Int) + f)] 3)) cb 41 41 3 i0 (.int .i64 0) 1 8 Try.underlying41 hi hz0 hz1 hz2 v pre2.length _ (hrow4.alloc _) ⟨wq.heap.size, 0, none⟩ 1 1 [.int .i64 ((z : Int) + f)] rfl (cell_one_new _ _ _) (by simp [Value.oneCell']) (by decide) (by unfold maxLen; omega) (by omega) v' w10 hrun
            obtain ⟨g', cap', rfl⟩ := ownsRow_succ hown'
            obtain ⟨hv1, hv2, hr2', hkk, hbb⟩ := hv4.appended (by decide) hrow4 hcw (Nat.le_refl _) hown' hgrow
            have hKF := (hM2.below hi2 hbQ).trans (mine_appended hv4 (by decide) hrow4 hcw (Nat.le_refl _) hown' hgrow hat)
            have hvc := hv1.cell
            have hvf := hv1.frozen
            have hK10 : ∀ j o u, Y.cell? ⟨j, o, none⟩ = some u → ¬ Mine cb Y j → w10.cell? ⟨j, o, none⟩ = some u := fun j o u hcell hnot => (World.cell?_of_block (w := wq.alloc (.cells #[.int .i64 ((z : Int) + f)] 3)) (a := ⟨j, o, none⟩) (hgrow.block j (Nat.lt_of_lt_of_le (lt_of_cell hcell) hb9.size) (fun e => hnot ((mine_iff hv j).2 (.inr e.symm))))).trans (cell_grown hb9 hcell)
            have ht10 : TableAt w10 (w.heap.size + 1) pre.length (restM L R) pre := (ht.kept (grown_none hb9) (by simp)).kept hgrow (fun e => nt ((mine_iff hv _).2 (.inr e.symm)))
            refine held_one (i := 10) (by kernel_rfl) rfl (fun K hK => ?_)
            rw [if_pos (by rfl)]
            refine opIn_append _ _ _ rfl v _ _ rfl rfl hrun ?_
            refine hK.out _ _ ?_ (fun hHeld => ?_)
            · exact ⟨hK10 _ _ _ p0 np, hK10 _ _ _ p1 np, hK10 _ _ _ p2 np, hK10 _ _ _ p3 np, hK10 _ _ _ p4 np, hK10 _ _ _ p5 np, hK10 _ _ _ p6 np, hK10 _ _ _ hm nm, hK10 _ _ _ c0 hBm, hK10 _ _ _ c1 hBm, hK10 _ _ _ c2 hBm, hK10 _ _ _ c3 hBm, hK10 _ _ _ c4 hBm, hK10 _ _ _ c5 hBm, hK10 _ _ _ c6 hBm, hK10 _ _ _ c7 hBm, hlk10 _ ht10⟩
            clear hK K
            try simp only [Act.put, List.setIfInBounds_toArray, List.set_cons_zero, List.set_cons_succ]
            refine held_one (i := 11) (by kernel_rfl) rfl (fun K hK => ?_)
            rw [if_pos (by rfl)]
            unfold Oper.wpIn
            refine ⟨fun f _ => hF f, ?_⟩
            go_simp
            have htF := ht10.setCell (a := ⟨cb, 0, none⟩) (show w.heap.size + 1 ≠ cb by omega) (.slice (some ⟨g', 0, none⟩) (pre2.length + 1) cap')
            refine hK.out _ _ ?_ (fun hHeld => ?_)
            · exact ⟨hKF.toC _ _ _ p0 np, hKF.toC _ _ _ p1 np, hKF.toC _ _ _ p2 np, hKF.toC _ _ _ p3 np, hKF.toC _ _ _ p4 np, hKF.toC _ _ _ p5 np, hKF.toC _ _ _ p6 np, hKF.toC _ _ _ hm nm, hKF.toC _ _ _ c0 hBm, hKF.toC _ _ _ c1 hBm, hKF.toC _ _ _ c2 hBm, hKF.toC _ _ _ c3 hBm, hKF.toC _ _ _ c4 hBm, hKF.toC _ _ _ c5 hBm, hKF.toC _ _ _ c6 hBm, hKF.toC _ _ _ c7 hBm, hlk10 _ htF⟩
            clear hK K
            try simp only [Act.put, List.setIfInBounds_toArray, List.set_cons_zero, List.set_cons_succ]
            refine held_done (by kernel_rfl) ?_ _
            try simp only [Exit.inBlock, Exit.then]
            refine ⟨(KeepsFrom.of_grownBy (grown_none hbQ) (fun j e => by cases e)).trans (hkk.from _), hKF, ?_⟩
            have hX := HCB.out
            refine ⟨⟨_, hv2, by simpa [HCOST.out] using hr2'⟩, htF, hKF.toC _ _ _ hm nm, ⟨hKF.toC _ _ _ p0 np, hKF.toC _ _ _ p1 np, hKF.toC _ _ _ p2 np, hKF.toC _ _ _ p3 np, hKF.toC _ _ _ p4 np, hKF.toC _ _ _ p5 np, hKF.toC _ _ _ p6 np⟩, ⟨hKF.toC _ _ _ x0 nx, hKF.toC _ _ _ x1 nx⟩, (hb.trans (hbQ.mono hb.size)).trans (hbb.mono (by omega)), hkf.trans ((KeepsFrom.of_grownBy (grown_none hbQ) (fun j e => by cases e)).trans (hkk.from _)),
              ⟨Nat.le_trans hkp.size hKF.size, fun j hj hj2 => (hbb.block j (by omega)).trans ((hbQ.block j (Nat.lt_of_lt_of_le hj hkp.size)).trans (hkp.same j hj hj2)), fun _ _ h => h⟩⟩
          · rw [if_pos (by rfl)]
            unfold Oper.wpIn
            refine ⟨fun f _ => hF f, ?_⟩
            go_simp
            have hb9 := below_then hbQ (below_alloc wq (.cells #[.int .i64 ((z : Int) + f)] 3))
            refine hK.out _ _ ?_ (fun hHeld => ?_)
            · exact ⟨cell_grown hb9 p0, cell_grown hb9 p1, cell_grown hb9 p2, cell_grown hb9 p3, cell_grown hb9 p4, cell_grown hb9 p5, cell_grown hb9 p6, cell_grown hb9 hm, cell_grown hb9 c0, cell_grown hb9 c1, cell_grown hb9 c2, cell_grown hb9 c3, cell_grown hb9 c4, cell_grown hb9 c5, cell_grown hb9 c6, cell_grown hb9 c7, hlook _ hb9⟩
            clear hK K
            try simp only [Act.put, List.setIfInBounds_toArray, List.set_cons_zero, List.set_cons_succ]
            refine held_one (i := 0) (by kernel_rfl) rfl (fun K hK => ?_)
            have kc := cell_grown hb9 hv.cell
            rw [if_pos (by rfl)]
            unfold Oper.wpIn
            refine ⟨fun f _ => hF f, ?_⟩
            go_simp
            refine hK.out _ _ ?_ (fun hHeld => ?_)
            · exact ⟨cell_grown hb9 p0, cell_grown hb9 p1, cell_grown hb9 p2, cell_grown hb9 p3, cell_grown hb9 p4, cell_grown hb9 p5, cell_grown hb9 p6, cell_grown hb9 hm, cell_grown hb9 c0, cell_grown hb9 c1, cell_grown hb9 c2, cell_grown hb9 c3, cell_grown hb9 c4, cell_grown hb9 c5, cell_grown hb9 c6, cell_grown hb9 c7, hlook _ hb9⟩
            clear hK K
            try simp only [Act.put, List.setIfInBounds_toArray, List.set_cons_zero, List.set_cons_succ]
            have hrow4 := book_owns hrow (grown_none hbQ) (fun r e => by cases e)
            have hv4 := book_boxed hv (grown_none hbQ) (fun r e => by cases e)
            have hcw : cb ≤ wq.heap.size := Nat.le_of_lt (Nat.lt_of_lt_of_le hv.lt hbQ.size)
            obtain ⟨v', w10, hrun, hown', hgrow, -⟩ := run_append_own (P := Try.prog) (wq.alloc (.cells #[.int .i64 ((z : Int) + f)] 3)) cb 41 41 3 i0 (.int .i64 0) 1 8 Try.underlying41 hi hz0 hz1 hz2 rfl (by decide) v pre2.length _ (hrow4.alloc _) ⟨wq.heap.size, 0, none⟩ 1 1 [.int .i64 ((z : Int) + f)] rfl (cell_one_new _ _ _) (by simp [Value.oneCell']) (by unfold maxLen; omega) (by omega) (by simp; omega)
            have hat := append_block (wq.alloc (.cells #[.int .i64 ((z : Int) + f)] 3)) cb 41 41 3 i0 (.int .i64 0) 1 8 Try.underlying41 hi hz0 hz1 hz2 v pre2.length _ (hrow4.alloc _) ⟨wq.heap.size, 0, none⟩ 1 1 [.int .i64 ((z : Int) + f)] rfl (cell_one_new _ _ _) (by simp [Value.oneCell']) (by decide) (by unfold maxLen; omega) (by omega) v' w10 hrun
            obtain ⟨g', cap', rfl⟩ := ownsRow_succ hown'
            obtain ⟨hv1, hv2, hr2', hkk, hbb⟩ := hv4.appended (by decide) hrow4 hcw (Nat.le_refl _) hown' hgrow
            have hKF := (hM2.below hi2 hbQ).trans (mine_appended hv4 (by decide) hrow4 hcw (Nat.le_refl _) hown' hgrow hat)
            have hvc := hv1.cell
            have hvf := hv1.frozen
            have hK10 : ∀ j o u, Y.cell? ⟨j, o, none⟩ = some u → ¬ Mine cb Y j → w10.cell? ⟨j, o, none⟩ = some u := fun j o u hcell hnot => (World.cell?_of_block (w := wq.alloc (.cells #[.int .i64 ((z : Int) + f)] 3)) (a := ⟨j, o, none⟩) (hgrow.block j (Nat.lt_of_lt_of_le (lt_of_cell hcell) hb9.size) (fun e => hnot ((mine_iff hv j).2 (.inr e.symm))))).trans (cell_grown hb9 hcell)
            have ht10 : TableAt w10 (w.heap.size + 1) pre.length (restM L R) pre := (ht.kept (grown_none hb9) (by simp)).kept hgrow (fun e => nt ((mine_iff hv _).2 (.inr e.symm)))
            refine held_one (i := 10) (by kernel_rfl) rfl (fun K hK => ?_)
            rw [if_pos (by rfl)]
            refine opIn_append _ _ _ rfl v _ _ rfl rfl hrun ?_
            refine hK.out _ _ ?_ (fun hHeld => ?_)
            · exact ⟨hK10 _ _ _ p0 np, hK10 _ _ _ p1 np, hK10 _ _ _ p2 np, hK10 _ _ _ p3 np, hK10 _ _ _ p4 np, hK10 _ _ _ p5 np, hK10 _ _ _ p6 np, hK10 _ _ _ hm nm, hK10 _ _ _ c0 hBm, hK10 _ _ _ c1 hBm, hK10 _ _ _ c2 hBm, hK10 _ _ _ c3 hBm, hK10 _ _ _ c4 hBm, hK10 _ _ _ c5 hBm, hK10 _ _ _ c6 hBm, hK10 _ _ _ c7 hBm, hlk10 _ ht10⟩
            clear hK K
            try simp only [Act.put, List.setIfInBounds_toArray, List.set_cons_zero, List.set_cons_succ]
            refine held_one (i := 11) (by kernel_rfl) rfl (fun K hK => ?_)
            rw [if_pos (by rfl)]
            unfold Oper.wpIn
            refine ⟨fun f _ => hF f, ?_⟩
            go_simp
            have htF := ht10.setCell (a := ⟨cb, 0, none⟩) (show w.heap.size + 1 ≠ cb by omega) (.slice (some ⟨g', 0, none⟩) (pre2.length + 1) cap')
            refine hK.out _ _ ?_ (fun hHeld => ?_)
            · exact ⟨hKF.toC _ _ _ p0 np, hKF.toC _ _ _ p1 np, hKF.toC _ _ _ p2 np, hKF.toC _ _ _ p3 np, hKF.toC _ _ _ p4 np, hKF.toC _ _ _ p5 np, hKF.toC _ _ _ p6 np, hKF.toC _ _ _ hm nm, hKF.toC _ _ _ c0 hBm, hKF.toC _ _ _ c1 hBm, hKF.toC _ _ _ c2 hBm, hKF.toC _ _ _ c3 hBm, hKF.toC _ _ _ c4 hBm, hKF.toC _ _ _ c5 hBm, hKF.toC _ _ _ c6 hBm, hKF.toC _ _ _ c7 hBm, hlk10 _ htF⟩
            clear hK K
            try simp only [Act.put, List.setIfInBounds_toArray, List.set_cons_zero, List.set_cons_succ]
            refine held_done (by kernel_rfl) ?_ _
            try simp only [Exit.inBlock, Exit.then]
            refine ⟨(KeepsFrom.of_grownBy (grown_none hbQ) (fun j e => by cases e)).trans (hkk.from _), hKF, ?_⟩
            have hX := HCB.out
            refine ⟨⟨_, hv2, by simpa [HCOST.out] using hr2'⟩, htF, hKF.toC _ _ _ hm nm, ⟨hKF.toC _ _ _ p0 np, hKF.toC _ _ _ p1 np, hKF.toC _ _ _ p2 np, hKF.toC _ _ _ p3 np, hKF.toC _ _ _ p4 np, hKF.toC _ _ _ p5 np, hKF.toC _ _ _ p6 np⟩, ⟨hKF.toC _ _ _ x0 nx, hKF.toC _ _ _ x1 nx⟩, (hb.trans (hbQ.mono hb.size)).trans (hbb.mono (by omega)), hkf.trans ((KeepsFrom.of_grownBy (grown_none hbQ) (fun j e => by cases e)).trans (hkk.from _)),
              ⟨Nat.le_trans hkp.size hKF.size, fun j hj hj2 => (hbb.block j (by omega)).trans ((hbQ.block j (Nat.lt_of_lt_of_le hj hkp.size)).trans (hkp.same j hj hj2)), fun _ _ h => h⟩⟩
    case done2 =>
      intro Y hi2
      obtain ⟨⟨v, hv, hrow⟩, ht, hm, ⟨p0, p1, p2, p3, p4, p5, p6⟩, ⟨x0, x1⟩, hb, hkf, hkp⟩ := hi2
      obtain ⟨va, vc, rfl⟩ := owns_shape hrow
      obtain ⟨vn, hvn⟩ : ∃ m, (movesM nl nr i k).length = m := ⟨_, rfl⟩
      have h5 : (movesM nl nr i k).length ≤ 5 := List.length_filter_le _ _
      rw [hvn] at h5 hv hrow
      have hvc := hv.cell
      have hst := restM_step L R i k (by rw [hL]; exact HXS.out.1) (by rw [hR]; exact HXS.out.2.1)
      rw [hL, hR] at hst
      obtain ⟨f, hf⟩ : ∃ f, f = restM L R i k := ⟨_, rfl⟩
      have hfb := restM_bd L R fL.1 fR.1 i k
      have hints : IntsAt Y va ((movesM nl nr i k).map fun s => (priceAt L R i k s : Int) + restM L R (i + s.1) (k + s.2)) := ints_of_owns (by rw [List.length_map, hvn]; rw [List.map_map]; exact hrow)
      have hleast : ∀ Z, Below Y.heap.size Y Z → CallsIn F (n - 1 - 1 - 1) Try.prog 111 #[.slice va vn vc] Z fun e w' => e = .returned (.int .i64 f) ∧ Below Z.heap.size Z w' := fun Z hZ => hc (by
        have := least_any _ vn vc va Z (by rw [List.length_map, hvn]) (by omega) (hints.grown hZ)
        rw [← hst, ← hf] at this
        exact this)
      have hput : ∀ Z, TableAt Z (w.heap.size + 1) pre.length (restM L R) pre → ∃ w', (Instr.mapUpdate 146 (.map (some (w.heap.size + 1))) (.agg #[.int .i64 (i : Int), .int .i64 (k : Int)]) (.int .i64 f)).run Try.prog Z = .ok () w' ∧ TableAt w' (w.heap.size + 1) (pre.length + 1) (restM L R) (pre ++ [(i, k)]) ∧ Z.grownBy w' (some (w.heap.size + 1)) := fun Z hZ => by
        rw [hf]
        exact hZ.put (by have := HPL.out; unfold maxLen; omega) (by have := HXS.out.1; omega) (by have := HXS.out.2.1; omega) hfb
      clear hints hst hf hvn
      have hb0 : Below Y.heap.size Y Y.drew := (Below.refl _ _).drew
      gi_wp2_with fail
      refine region_held (S := fun w' : World => w'.cell? ⟨w.heap.size + 1 + 1, 0, none⟩ = some (.map (some (w.heap.size + 1))) ∧ w'.cell? ⟨Bx, 0, none⟩ = some (.int .i64 (i : Int)) ∧ w'.cell? ⟨Bx, 1, none⟩ = some (.int .i64 (k : Int)) ∧ w'.cell? ⟨cb, 0, none⟩ = some (.slice va vn vc)) (by kernel_rfl) ⟨cell_grown hb0 hm, cell_grown hb0 x0, cell_grown hb0 x1, cell_grown hb0 hvc⟩ (fun hHeld => ?_)
      refine held_take (i := 0) (v := ?_) (plain_of (by kernel_rfl)) rfl (by kernel_rfl) (by kernel_rfl) (by kernel_rfl) (fun _ _ _ h => h) (Or.inl ⟨by rfl, ?_⟩) (fun _ => rfl) (by assumption) ?_
      rotate_left 1
      · intro w hSw
        (try dsimp only at hSw)
        go_simp
        all_goals (with_reducible rfl)
      try simp only [Act.put, List.setIfInBounds_toArray, List.set_cons_zero, List.set_cons_succ]
      refine held_take (i := 1) (v := ?_) (plain_of (by kernel_rfl)) rfl (by kernel_rfl) (by kernel_rfl) (by kernel_rfl) (fun _ _ _ h => h) (Or.inl ⟨by rfl, ?_⟩) (fun _ => rfl) (by assumption) ?_
      rotate_left 1
      · intro w hSw
        (try dsimp only at hSw)
        go_simp
        all_goals (with_reducible rfl)
      try simp only [Act.put, List.setIfInBounds_toArray, List.set_cons_zero, List.set_cons_succ]
      refine held_take (i := 2) (v := ?_) (plain_of (by kernel_rfl)) rfl (by kernel_rfl) (by kernel_rfl) (by kernel_rfl) (fun _ _ _ h => h) (Or.inl ⟨by rfl, ?_⟩) (fun _ => rfl) (by assumption) ?_
      rotate_left 1
      · intro w hSw
        (try dsimp only at hSw)
        go_simp
        all_goals (with_reducible rfl)
      try simp only [Act.put, List.setIfInBounds_toArray, List.set_cons_zero, List.set_cons_succ]
      refine held_one (i := 3) (by kernel_rfl) rfl (fun K hK => ?_)
      rw [if_pos (by rfl)]
      unfold Oper.wpIn
      refine ⟨fun f _ => hF f, ?_⟩
      go_simp
      refine (CallsIn.inRound l (hleast _ hb0)).mono ?_
      rintro e wp ⟨rfl, hbp⟩
      have hbP := below_then hb0 hbp
      clear hHeld hbp
      refine hK.out _ _ ?_ (fun hHeld => ?_)
      · exact ⟨cell_grown hbP hm, cell_grown hbP x0, cell_grown hbP x1, cell_grown hbP hvc⟩
      clear hK K
      try simp only [Act.put, List.setIfInBounds_toArray, List.set_cons_zero, List.set_cons_succ]
      have htP := ht.kept (grown_none hbP) (by simp)
      obtain ⟨wq, hrun, htq, hgq⟩ := hput wp htP
      obtain ⟨om, hom, homc⟩ := htP.noCells
      have hkc : ∀ bb o u, wp.cell? ⟨bb, o, none⟩ = some u → wq.cell? ⟨bb, o, none⟩ = some u := fun bb o u h => cell_kept h hgq (fun r e => by cases e; exact ⟨om, hom, homc⟩)
      refine held_one (i := 4) (by kernel_rfl) rfl (fun K hK => ?_)
      rw [if_pos (by rfl)]
      unfold Oper.wpIn
      refine ⟨fun f _ => hF f, ?_⟩
      go_simp
      refine hK.out _ _ ?_ (fun hHeld => ?_)
      · exact ⟨hkc _ _ _ (cell_grown hbP hm), hkc _ _ _ (cell_grown hbP x0), hkc _ _ _ (cell_grown hbP x1), hkc _ _ _ (cell_grown hbP hvc)⟩
      clear hK K
      try simp only [Act.put, List.setIfInBounds_toArray, List.set_cons_zero, List.set_cons_succ]
      refine held_done (by kernel_rfl) ?_ _
      try simp only [Exit.inBlock, Exit.then]
      have hX := HCB.out
      have hsz := hb.size
      have hkY : KeepsFrom W1.heap.size Y wq := (KeepsFrom.of_grownBy (grown_none hbP) (fun j e => by cases e)).trans (KeepsFrom.of_grownBy hgq (fun j e => by cases e; omega))
      refine ⟨hkf.trans hkY, ⟨Nat.le_trans hkp.size hkY.size, fun j hj hj2 => (hgq.block j (Nat.lt_of_lt_of_le hj (Nat.le_trans hkp.size hbP.size)) (fun e => hj2 (by simpa using e))).trans ((hbP.block j (Nat.lt_of_lt_of_le hj hkp.size)).trans (hkp.same j hj hj2)), fun _ _ h => h⟩, ?_⟩
      refine ⟨by rw [List.length_append]; exact htq, hkc _ _ _ (cell_grown hbP hm), ⟨hkc _ _ _ (cell_grown hbP p0), hkc _ _ _ (cell_grown hbP p1), hkc _ _ _ (cell_grown hbP p2), hkc _ _ _ (cell_grown hbP p3), hkc _ _ _ (cell_grown hbP p4), hkc _ _ _ (cell_grown hbP p5), hkc _ _ _ (cell_grown hbP p6)⟩, ?_⟩
      exact (hb.trans (hbP.mono hb.size)).grown hgq (Nat.le_trans hb.size hbP.size) (fun r e => by cases e; omega)

end Go.Proofs.Ytohahlnhbppnhaa
