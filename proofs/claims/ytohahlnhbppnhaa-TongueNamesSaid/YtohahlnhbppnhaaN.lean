/- Tongue: the best match is followed step by step. -/
import Derived.Test.YtohahlnhbppnhaaL
import Derived.Test.YtohahlnhbppnhaaM
namespace Go.Proofs.Ytohahlnhbppnhaa
open Go.RowKit Go.Shelf Go.Maps
set_option linter.unusedSimpArgs false
set_option linter.unusedVariables false

attribute [local go_sem] Oper.semAt_some

theorem Try.info36 : (Try.prog.info? 36).map (fun i => (i.zero, i.size, i.bytes)) = some (some (.agg #[.int .i64 0, .int .i64 0]), 2, 16) := by kernel_rfl

theorem two_new (w : World) (x y : Value) (t : TypeId) : ∀ j u, [x, y][j]? = some u → (w.alloc (.cells #[x, y] t)).cell? ((⟨w.heap.size, 0, none⟩ : Addr).add j) = some u := by
  intro j u hj
  match j, hj with
  | 0, hj => simp at hj; subst hj; simp [Addr.add]
  | 1, hj => simp at hj; subst hj; simp [Addr.add]
  | j + 2, hj => simp at hj

theorem others_below {W W' : World} (h : Below W.heap.size W W') : KeepsOthers W W' := ⟨h.size, fun k _ hk _ => (h.block k (Array.getElem?_eq_some_iff.1 hk).1).trans hk⟩

theorem others_own {β : Type} {B : Nat} {W : World} (hB : W.heap.size ≤ B) : OwnFrom B (fun (_ : β) X => KeepsOthers W X) := fun _ X Y row hs hg hr =>
  ⟨Nat.le_trans hs.size hg.size, fun k o hk ho => by
    have hX := hs.same k o hk ho
    refine (hg.block k (Array.getElem?_eq_some_iff.1 hX).1 (fun e => ?_)).trans hX
    have h1 := (hr k e.symm).1
    have h2 := (Array.getElem?_eq_some_iff.1 hk).1
    omega⟩

theorem keep_below {sb : Nat} {W X : World} {v : Value} {t : TypeId} (hv : Boxed W sb t v) (h : Below W.heap.size W X) : Keep (Mine sb) W X :=
  ⟨h.size, fun j hj _ => h.block j hj, fun j _ hm hm' => hm ((mine_iff hv j).2 ((mine_iff (book_boxed hv (grown_none h) (fun r e => by cases e)) j).1 hm'))⟩

theorem keep_own {sb : Nat} {B : Nat} {W X Y : World} {row : Option Nat} {v : Value} {t : TypeId} (hB : W.heap.size ≤ B) (hv : Boxed X sb t v) (h : Keep (Mine sb) W X) (hg : X.grownBy Y row) (hr : ∀ r, row = some r → B ≤ r ∧ ∃ o : Obj, X.heap[r]? = some o ∧ o.isCells = false) : Keep (Mine sb) W Y :=
  ⟨Nat.le_trans h.size hg.size, fun j hj hm => (hg.block j (Nat.lt_of_lt_of_le hj h.size) (fun e => by have := (hr j e.symm).1; omega)).trans (h.same j hj hm),
   fun j hj hm hm' => h.other j hj hm (by
    have hv' := book_boxed hv hg (fun r e => (hr r e).2)
    exact (mine_iff hv j).2 ((mine_iff hv' j).1 hm'))⟩

set_option maxRecDepth 100000 in
set_option maxHeartbeats 4000000 in
theorem follow_any (L R : List Sen) (nl cl nr cr b b0 b2 pb tb sb fb mb nt : Nat) (la ra : Option Addr) (w0 : World) (hL : L.length = nl) (hR : R.length = nr) (fL : FineT L) (fR : FineT R) (hcl : nl ≤ cl) (hcr : nr ≤ cr) (hS : TextAt w0 la L) (hT : TextAt w0 ra R) (hC : ChargesAt w0 b b0 b2)
    (hpb : pb < sb) (htb : tb < sb) (hmb : mb < sb) (hw0 : w0.heap.size ≤ sb) :
    ∀ (m i k : Nat) (done : List (Nat × Nat)) (v : Value) (W : World), (nl - i) + (nr - k) ≤ m → i ≤ nl → k ≤ nr → done.length + m ≤ 3000 → Below w0.heap.size w0 W →
      (W.cell? ⟨pb, 0, none⟩ = some (.slice la nl cl) ∧ W.cell? ⟨pb, 1, none⟩ = some (.int .u8 0) ∧ W.cell? ⟨pb, 2, none⟩ = some (.int .i64 0) ∧ W.cell? ⟨pb, 3, none⟩ = some (.slice ra nr cr) ∧ W.cell? ⟨pb, 4, none⟩ = some (.int .u8 1) ∧ W.cell? ⟨pb, 5, none⟩ = some (.int .i64 0) ∧ W.cell? ⟨pb, 6, none⟩ = some (.slice (some ⟨b, 0, none⟩) 3 3)) → W.cell? ⟨tb, 0, none⟩ = some (.map (some mb)) → TableAt W mb nt (restM L R) (placesM nl nr) →
      W.cell? ⟨fb, 0, none⟩ = some (.func (.func 79) #[] #[.pointer (some ⟨pb, 0, none⟩), .pointer (some ⟨tb, 0, none⟩), .pointer (some ⟨sb, 0, none⟩), .pointer (some ⟨fb, 0, none⟩)]) → Boxed W sb 27 v → W.ownsRow sb 36 2 v done.length (flatS done) → ¬ Mine sb W fb →
      Calls Try.prog 79 #[.agg #[.int .i64 (i : Int), .int .i64 (k : Int)], .pointer (some ⟨pb, 0, none⟩), .pointer (some ⟨tb, 0, none⟩), .pointer (some ⟨sb, 0, none⟩), .pointer (some ⟨fb, 0, none⟩)] W fun e W' => (∃ u, e = .returned u) ∧ (∃ v', Boxed W' sb 27 v' ∧ W'.ownsRow sb 36 2 v' (done ++ bestM L R i k).length (flatS (done ++ bestM L R i k))) ∧ Keep (Mine sb) W W' ∧ KeepsOthers W W' ∧ Below sb W W' := by
  have hnl : nl ≤ 1000 := by rw [← hL]; exact fL.1
  have hnr : nr ≤ 1000 := by rw [← hR]; exact fR.1
  intro m
  induction m using Nat.strongRecOn with
  | _ m ih =>
  intro i k done v W hm hi hk hlen hB0 hPB htm ht hfc hv hrow hfm
  obtain ⟨F, hFw⟩ : ∃ F, F = Fence.wide := ⟨_, rfl⟩
  have hF : ∀ f, F.fn f := fun f => by rw [hFw]; exact trivial
  have hro : F.round = none := by rw [hFw]; rfl
  have hd : F.depth = none := by rw [hFw]; rfl
  have hc : ∀ {n : Nat} {f args w R}, Calls Try.prog f args w R → CallsIn F n Try.prog f args w R := fun h => by rw [hFw]; exact callsIn_wide.2 h
  suffices h : CallsIn F 9 Try.prog 79 #[.agg #[.int .i64 (i : Int), .int .i64 (k : Int)], .pointer (some ⟨pb, 0, none⟩), .pointer (some ⟨tb, 0, none⟩), .pointer (some ⟨sb, 0, none⟩), .pointer (some ⟨fb, 0, none⟩)] W fun e W' => (∃ u, e = .returned u) ∧ (∃ v', Boxed W' sb 27 v' ∧ W'.ownsRow sb 36 2 v' (done ++ bestM L R i k).length (flatS (done ++ bestM L R i k))) ∧ Keep (Mine sb) W W' ∧ KeepsOthers W W' ∧ Below sb W W' by
    rw [hFw] at h; exact callsIn_wide.1 h
  clear hFw
  obtain ⟨n, hn⟩ : ∃ n, n = 9 := ⟨_, rfl⟩
  rw [← hn]
  have hn3 : 8 ≤ n := by omega
  have h1 : 1 ≤ n := by omega
  clear hn
  obtain ⟨p0, p1, p2, p3, p4, p5, p6⟩ := hPB
  obtain ⟨i0, hi0, hz0, hz1, hz2⟩ := info_parts Try.info36
  have gpb := lt_of_cell p0
  refine callsIn_of_wp_marks Try.func79 rfl (hF _) ?_ hro
  simp only [Try.ntmps79, List.size_toArray, List.length_cons, List.length_nil, Nat.reduceAdd, Nat.reduceSub, Array.replicate_succ, Array.replicate_zero, List.push_toArray, List.append_toArray, List.nil_append, List.cons_append]
  gi_wp2_with (gi_at_call 80; refine (hc (next_make (.slice la nl cl) (.int .u8 0) (.int .i64 0) (.slice ra nr cr) (.int .u8 1) (.int .i64 0) (.slice (some ⟨b, 0, none⟩) 3 3) (.int .i64 (i : Int)) (.int .i64 (k : Int)) _)).mono ?_; rintro e w' ⟨rfl, rfl⟩)
  obtain ⟨ab, hab⟩ : ∃ c, c = W.heap.size := ⟨_, rfl⟩
  obtain ⟨W2, hW2⟩ : ∃ Y, Y = ((W.alloc (.cells #[.int .i64 (i : Int), .int .i64 (k : Int)] 150)).alloc (.cells #[.slice la nl cl, .int .u8 0, .int .i64 0, .slice ra nr cr, .int .u8 1, .int .i64 0, .slice (some ⟨b, 0, none⟩) 3 3] 119)).alloc (.cells #[.int .i64 (i : Int), .int .i64 (k : Int)] 150) := ⟨_, rfl⟩
  have hB2 : Below W.heap.size W W2 := by rw [hW2]; exact (((Below.refl _ W).alloc (Nat.le_refl _) _).alloc (by simp) _).alloc (by simp; omega) _
  have s2 : W2.heap.size = ab + 3 := by rw [hW2, hab]; simp
  have x0 : W2.cell? ⟨ab, 0, none⟩ = some (.int .i64 (i : Int)) := by rw [hW2, hab]; simp [go_sem]
  have x1 : W2.cell? ⟨ab, 1, none⟩ = some (.int .i64 (k : Int)) := by rw [hW2, hab]; simp [go_sem]
  have y0 : W2.cell? ⟨ab + 1, 0, none⟩ = some (.slice la nl cl) := by rw [hW2, hab]; simp [go_sem]
  have y1 : W2.cell? ⟨ab + 1, 1, none⟩ = some (.int .u8 0) := by rw [hW2, hab]; simp [go_sem]
  have y2 : W2.cell? ⟨ab + 1, 2, none⟩ = some (.int .i64 0) := by rw [hW2, hab]; simp [go_sem]
  have y3 : W2.cell? ⟨ab + 1, 3, none⟩ = some (.slice ra nr cr) := by rw [hW2, hab]; simp [go_sem]
  have y4 : W2.cell? ⟨ab + 1, 4, none⟩ = some (.int .u8 1) := by rw [hW2, hab]; simp [go_sem]
  have y5 : W2.cell? ⟨ab + 1, 5, none⟩ = some (.int .i64 0) := by rw [hW2, hab]; simp [go_sem]
  have y6 : W2.cell? ⟨ab + 1, 6, none⟩ = some (.slice (some ⟨b, 0, none⟩) 3 3) := by rw [hW2, hab]; simp [go_sem]
  have ya : W2.cell? ⟨ab + 1 + 1, 0, none⟩ = some (.int .i64 (i : Int)) := by rw [hW2, hab]; simp [go_sem]
  have yb : W2.cell? ⟨ab + 1 + 1, 1, none⟩ = some (.int .i64 (k : Int)) := by rw [hW2, hab]; simp [go_sem]
  rw [← hW2, ← hab]
  clear hW2
  have HAB := hid hab
  have hsl : sb < ab := by rw [hab]; exact hv.lt
  have hv2 := book_boxed hv (grown_none hB2) (fun r e => by cases e)
  have hrow2 := book_owns hrow (grown_none hB2) (fun r e => by cases e)
  have hnm : ∀ j, W.heap.size ≤ j → ¬ Mine sb W2 j := fun j hj h => by
    rcases (mine_iff hv2 j).1 h with e | e
    · have := HAB.out; omega
    · have := (hrow.lt j e).2; omega
  have hkW : Keep (Mine sb) W W2 := ⟨hB2.size, fun j hj _ => hB2.block j hj, fun j hj hm hm' => hm ((mine_iff hv j).2 ((mine_iff hv2 j).1 hm'))⟩
  have hm1 := hnm (ab + 1) (by omega)
  have hm2 := hnm (ab + 1 + 1) (by omega)
  have hma := hnm ab (by omega)
  have zB2 : ab + 3 ≤ W2.heap.size := by omega
  have szl : W.heap.size ≤ W2.heap.size := hB2.size
  clear hab s2 hnm
  let PB : World → Prop := fun X => X.cell? ⟨pb, 0, none⟩ = some (.slice la nl cl) ∧ X.cell? ⟨pb, 1, none⟩ = some (.int .u8 0) ∧ X.cell? ⟨pb, 2, none⟩ = some (.int .i64 0) ∧ X.cell? ⟨pb, 3, none⟩ = some (.slice ra nr cr) ∧ X.cell? ⟨pb, 4, none⟩ = some (.int .u8 1) ∧ X.cell? ⟨pb, 5, none⟩ = some (.int .i64 0) ∧ X.cell? ⟨pb, 6, none⟩ = some (.slice (some ⟨b, 0, none⟩) 3 3)
  have hPB : ∀ (A A' : World) (row : Option Nat), PB A → A.grownBy A' row → (∀ r, row = some r → ∃ o : Obj, A.heap[r]? = some o ∧ o.isCells = false) → PB A' := fun A A' row h hg hr =>
    ⟨cell_kept h.1 hg hr, cell_kept h.2.1 hg hr, cell_kept h.2.2.1 hg hr, cell_kept h.2.2.2.1 hg hr, cell_kept h.2.2.2.2.1 hg hr, cell_kept h.2.2.2.2.2.1 hg hr, cell_kept h.2.2.2.2.2.2 hg hr⟩
  let I : List (Nat × Nat) → World → Prop := fun pre X => (Boxed X sb 27 v ∧ X.ownsRow sb 36 2 v done.length (flatS done)) ∧ TableAt X mb nt (restM L R) (placesM nl nr) ∧ X.cell? ⟨tb, 0, none⟩ = some (.map (some mb)) ∧ X.cell? ⟨fb, 0, none⟩ = some (.func (.func 79) #[] #[.pointer (some ⟨pb, 0, none⟩), .pointer (some ⟨tb, 0, none⟩), .pointer (some ⟨sb, 0, none⟩), .pointer (some ⟨fb, 0, none⟩)]) ∧ PB X ∧
    (X.cell? ⟨ab, 0, none⟩ = some (.int .i64 (i : Int)) ∧ X.cell? ⟨ab, 1, none⟩ = some (.int .i64 (k : Int))) ∧ (∀ t ∈ pre, fitM L R i k t = false) ∧ Below sb W X ∧ Keep (Mine sb) W X ∧ KeepsOthers W X
  let Ix : Code → List (Nat × Nat) → World → Prop := fun c pre X => c = .ret ∧ ∃ q s v', pre = q ++ [s] ∧ (∀ t ∈ q, fitM L R i k t = false) ∧ fitM L R i k s = true ∧ (Boxed X sb 27 v' ∧ X.ownsRow sb 36 2 v' (done ++ s :: bestM L R (i + s.1) (k + s.2)).length (flatS (done ++ s :: bestM L R (i + s.1) (k + s.2)))) ∧ Below sb W X ∧ Keep (Mine sb) W X ∧ KeepsOthers W X
  have hI : OwnFrom W2.heap.size I := fun s A A' row hs hg hr => by
    have hr' : ∀ r, row = some r → ∃ o : Obj, A.heap[r]? = some o ∧ o.isCells = false := fun r e => (hr r e).2
    have hne : ∀ r, row = some r → ab + 3 ≤ r := fun r e => by have := (hr r e).1; omega
    obtain ⟨⟨h1, h2⟩, h3, h4, h5, h6, h7, h8, h9, h10, h11⟩ := hs
    exact ⟨⟨book_boxed h1 hg hr', book_owns h2 hg hr'⟩, h3.kept hg (fun e => by have := hne _ e.symm; omega), cell_kept h4 hg hr', cell_kept h5 hg hr', hPB _ _ _ h6 hg hr', ⟨cell_kept h7.1 hg hr', cell_kept h7.2 hg hr'⟩, h8,
      h9.grown hg (Nat.le_of_lt h1.lt) (fun r e => by have := hne r e; omega), keep_own szl h1 h10 hg hr, others_own (β := Unit) szl () A A' row h11 hg hr⟩
  have hIx : ∀ c, OwnFrom W2.heap.size (Ix c) := fun c s A A' row hs hg hr => by
    have hr' : ∀ r, row = some r → ∃ o : Obj, A.heap[r]? = some o ∧ o.isCells = false := fun r e => (hr r e).2
    have hne : ∀ r, row = some r → ab + 3 ≤ r := fun r e => by have := (hr r e).1; omega
    obtain ⟨hcc, q, s', v', e1, e2, e3, ⟨h1, h2⟩, h9, h10, h11⟩ := hs
    exact ⟨hcc, q, s', v', e1, e2, e3, ⟨book_boxed h1 hg hr', book_owns h2 hg hr'⟩, h9.grown hg (Nat.le_of_lt h1.lt) (fun r e => by have := hne r e; omega), keep_own szl h1 h10 hg hr, others_own (β := Unit) szl () A A' row h11 hg hr⟩
  have hM : MineOk W2.heap.size I (Mine sb) := mine_ok (t := 27) (n₀ := sb) (e := 36) (size := 2) fun s Y h => ⟨v, _, _, h.1.1, h.1.2⟩
  refine rangeO hro h1 (gf := 112) (lb := #[.pointer (some ⟨ab + 1, 0, none⟩), .pointer (some ⟨ab + 1 + 1, 0, none⟩)]) rfl (hF _) (enters_of Try.func112 (by kernel_rfl) rfl)
    (next_seq hF hro hd hc (by omega) (ab + 1) (ab + 1 + 1) nl cl nr cr i k 3 3 la ra (some ⟨b, 0, none⟩) hnl hnr hcl hcr (by omega) (by omega) W2 y0 y1 y2 y3 y4 y5 y6 ya yb) (Below.refl _ _) (fun _ => rfl) I Ix hI hIx
    (Mine sb) hM (fun j hj => by rcases hj with rfl | rfl; exact hm1; exact hm2)
    ⟨⟨hv2, hrow2⟩, ht.kept (grown_none hB2) (by simp), cell_grown hB2 htm, cell_grown hB2 hfc, ⟨cell_grown hB2 p0, cell_grown hB2 p1, cell_grown hB2 p2, cell_grown hB2 p3, cell_grown hB2 p4, cell_grown hB2 p5, cell_grown hB2 p6⟩, ⟨x0, x1⟩, fun _ h => (by cases h), hB2.mono (Nat.le_of_lt hv.lt), hkW, others_below hB2⟩
    (fun s a' Y => ∃ Bm, ¬ Mine sb Y Bm ∧ (∃ q, I q Y) ∧ (Y.cell? ⟨Bm, 0, none⟩ = some (.int .i64 (s.1 : Int)) ∧ Y.cell? ⟨Bm, 1, none⟩ = some (.int .i64 (s.2 : Int)) ∧ Y.cell? ⟨Bm, 2, none⟩ = some (.slice (subA la cl i 2) s.1 (cl - i)) ∧ Y.cell? ⟨Bm, 3, none⟩ = some (.int .u8 0) ∧ Y.cell? ⟨Bm, 4, none⟩ = some (.int .i64 (i : Int)) ∧ Y.cell? ⟨Bm, 5, none⟩ = some (.slice (subA ra cr k 2) s.2 (cr - k)) ∧ Y.cell? ⟨Bm, 6, none⟩ = some (.int .u8 1) ∧ Y.cell? ⟨Bm, 7, none⟩ = some (.int .i64 (k : Int))) ∧
      a' = { tmps := #[.agg #[.int .i64 (i : Int), .int .i64 (k : Int)], .pointer (some ⟨pb, 0, none⟩), .pointer (some ⟨tb, 0, none⟩), .pointer (some ⟨sb, 0, none⟩), .pointer (some ⟨fb, 0, none⟩), .pointer (some ⟨ab, 0, none⟩), .pointer (some ⟨Bm, 0, none⟩), .agg #[.slice la nl cl, .int .u8 0, .int .i64 0, .slice ra nr cr, .int .u8 1, .int .i64 0, .slice (some ⟨b, 0, none⟩) 3 3], .agg #[.int .i64 (i : Int), .int .i64 (k : Int)], .func (.func 112) #[] #[.pointer (some ⟨ab + 1, 0, none⟩), .pointer (some ⟨ab + 1 + 1, 0, none⟩)], .agg #[.int .i64 (s.1 : Int), .int .i64 (s.2 : Int), .slice (subA la cl i 2) s.1 (cl - i), .int .u8 0, .int .i64 (i : Int), .slice (subA ra cr k 2) s.2 (cr - k), .int .u8 1, .int .i64 (k : Int)], undef, undef, undef, undef, undef, undef, undef, undef, undef, undef, undef, undef, undef, undef, undef, undef, undef, undef, undef, undef, undef], defers := [] })
    ?hAx ?assign ?body ?done ?stop
  case hAx =>
    rintro s a' u A A' row ⟨Bm, hm, ⟨q, hq⟩, ⟨c0, c1, c2, c3, c4, c5, c6, c7⟩, e⟩ hg hr
    have hr' : ∀ r, row = some r → ∃ o : Obj, A.heap[r]? = some o ∧ o.isCells = false := fun r e => (hr r e).2
    exact ⟨Bm, fun h => hm (hM.grown q A A' row Bm hq hg hr h), ⟨q, hI _ _ _ row hq hg hr⟩, ⟨cell_kept c0 hg hr', cell_kept c1 hg hr', cell_kept c2 hg hr', cell_kept c3 hg hr', cell_kept c4 hg hr', cell_kept c5 hg hr', cell_kept c6 hg hr', cell_kept c7 hg hr'⟩, e⟩
  case assign =>
    intro l2 pre2 s Y K hi hY hK
    dsimp only [encMove]
    gi_wp2
    exact hK _ (Y.alloc (.cells #[.int .i64 (s.1 : Int), .int .i64 (s.2 : Int), .slice (subA la cl i 2) s.1 (cl - i), .int .u8 0, .int .i64 (i : Int), .slice (subA ra cr k 2) s.2 (cr - k), .int .u8 1, .int .i64 (k : Int)] 155)) ((KeepsOthers.alloc _ _).from _) (hM.alloc hi _) (OwnFrom.alloc hI _ hi) ⟨Y.heap.size, hM.fresh hi _, ⟨pre2, OwnFrom.alloc hI _ hi⟩, ⟨by rw [World.cell?_alloc_new]; rfl, by rw [World.cell?_alloc_new]; rfl, by rw [World.cell?_alloc_new]; rfl, by rw [World.cell?_alloc_new]; rfl, by rw [World.cell?_alloc_new]; rfl, by rw [World.cell?_alloc_new]; rfl, by rw [World.cell?_alloc_new]; rfl, by rw [World.cell?_alloc_new]; rfl⟩, rfl⟩
  case done =>
    intro D X hD hi2 hK
    obtain ⟨⟨h1, h2⟩, -, -, -, -, -, h8, h9, h10, h11⟩ := hi2
    have hend : bestM L R i k = [] := by
      by_cases hne : movesM L.length R.length i k = []
      · exact bestM_end hne
      · obtain ⟨s, hs, hfs⟩ := fit_exists L R i k (by omega) (by omega) hne
        rw [h8 s (by rwa [hL, hR] at hs)] at hfs
        cases hfs
    gi_wp2
    refine ⟨by simp, .inl ⟨_, _, rfl, run_takeDeferred hK, ?_⟩⟩
    have hg := grownBy_putObj' X D (.deferred none)
    have hr : ∀ r, (some D) = some r → W.heap.size ≤ r ∧ ∃ o : Obj, X.heap[r]? = some o ∧ o.isCells = false := fun r e => by cases e; exact ⟨by omega, _, hK, rfl⟩
    rw [hend, List.append_nil]
    exact ⟨_, results_none rfl _ _ _, ⟨_, rfl⟩, ⟨v, book_boxed h1 hg (fun r e => (hr r e).2), book_owns h2 hg (fun r e => (hr r e).2)⟩, keep_own (Nat.le_refl _) h1 h10 hg hr, others_own (β := Unit) (Nat.le_refl _) () X _ _ h11 hg hr, h9.grown hg (Nat.le_of_lt h1.lt) (fun r e => by have := (hr r e).1; have := hv.lt; omega)⟩
  case stop =>
    rintro D c pre X hD hpre ⟨rfl, q, s, v', e1, e2, e3, ⟨h1, h2⟩, h9, h10, h11⟩ hK
    obtain ⟨rest, hrest⟩ := hpre
    have hst : bestM L R i k = s :: bestM L R (i + s.1) (k + s.2) := bestM_step (pre := q) (rest := rest) (by rw [hL, hR, ← hrest, e1]; simp) e2 e3
    gi_wp2
    refine ⟨by simp, .inl ⟨_, _, rfl, run_takeDeferred hK, ?_⟩⟩
    have hg := grownBy_putObj' X D (.deferred none)
    have hr : ∀ r, (some D) = some r → W.heap.size ≤ r ∧ ∃ o : Obj, X.heap[r]? = some o ∧ o.isCells = false := fun r e => by cases e; exact ⟨by omega, _, hK, rfl⟩
    rw [hst]
    exact ⟨_, results_none rfl _ _ _, ⟨_, rfl⟩, ⟨v', book_boxed h1 hg (fun r e => (hr r e).2), book_owns h2 hg (fun r e => (hr r e).2)⟩, keep_own (Nat.le_refl _) h1 h10 hg hr, others_own (β := Unit) (Nat.le_refl _) () X _ _ h11 hg hr, h9.grown hg (Nat.le_of_lt h1.lt) (fun r e => by have := (hr r e).1; have := hv.lt; omega)⟩
  case body =>
    rintro l pre ⟨s1, s2⟩ rest a2 Y hxs hY hl ⟨r, hr⟩ hi2 ⟨Bm, hBm, -, ⟨c0, c1, c2, c3, c4, c5, c6, c7⟩, rfl⟩
    obtain ⟨⟨hv3, hrow3⟩, ht3, hm, hfc3, ⟨p0, p1, p2, p3, p4, p5, p6⟩, ⟨x0, x1⟩, hpre, hb, hkp, hot⟩ := id hi2
    simp only at c0 c1 c2 c3 c4 c5 c6 c7
    have hsm : (s1, s2) ∈ movesM nl nr i k := by rw [hxs]; simp
    have hmv := mem_moves hsm
    simp only at hmv
    obtain ⟨m1, m2, m3, m4, m5⟩ := hmv
    have hbw0 : Below w0.heap.size w0 Y := hB0.trans (hb.mono hw0)
    have np : ¬ Mine sb Y pb := not_mine_old hv3 hrow3 hpb
    have ntb : ¬ Mine sb Y tb := not_mine_old hv3 hrow3 htb
    have nmb : ¬ Mine sb Y mb := not_mine_old hv3 hrow3 hmb
    have nfb : ¬ Mine sb Y fb := fun h => hfm ((mine_iff hv fb).2 ((mine_iff hv3 fb).1 h))
    have na : ¬ Mine sb Y ab := fun h => by
      rcases (mine_iff hv3 ab).1 h with e | e
      · omega
      · have := (hrow.lt ab e).2
        have := HAB.out
        omega
    have hprice : ∀ Z, Below Y.heap.size Y Z → CallsIn F (n - 1 - 1 - 1) Try.prog 81 #[.agg #[.slice la nl cl, .int .u8 0, .int .i64 0, .slice ra nr cr, .int .u8 1, .int .i64 0, .slice (some ⟨b, 0, none⟩) 3 3], .agg #[.int .i64 (s1 : Int), .int .i64 (s2 : Int), .slice (subA la cl i 2) s1 (cl - i), .int .u8 0, .int .i64 (i : Int), .slice (subA ra cr k 2) s2 (cr - k), .int .u8 1, .int .i64 (k : Int)]] Z fun e w' => e = .returned (.int .i64 (priceAt L R i k (s1, s2) : Nat)) ∧ Below Z.heap.size Z w' := fun Z hZ => hc (by
      have hbz := hbw0.trans (hZ.mono hbw0.size)
      exact price_any ((L.drop i).take s1) ((R.drop k).take s2) s1 s2 0 1 0 1 s1 (cl - i) s2 (cr - k) b b0 b2 nl cl nr cr i k 0 0 (subA la cl i 2) (subA ra cr k 2) la ra Z m4 m5 (by simp; omega) (by simp; omega) (fL.part _ _) (fR.part _ _) ((hS.grown hbz).part hL hcl i s1 m1) ((hT.grown hbz).part hR hcr k s2 m2) (hC.grown hbz))
    have hbehind : ∀ Z, CallsIn F (n - 1 - 1 - 1) Try.prog 82 #[.agg #[.int .i64 (s1 : Int), .int .i64 (s2 : Int), .slice (subA la cl i 2) s1 (cl - i), .int .u8 0, .int .i64 (i : Int), .slice (subA ra cr k 2) s2 (cr - k), .int .u8 1, .int .i64 (k : Int)]] Z fun e w' => e = .returned (.agg #[.int .i64 ((i + s1 : Nat) : Int), .int .i64 ((k + s2 : Nat) : Int)]) ∧ Below Z.heap.size Z w' := fun Z => hc (behind_any s1 s2 0 1 s1 (cl - i) i s2 (cr - k) k (subA la cl i 2) (subA ra cr k 2) Z (by omega) (by omega) (by omega) (by omega))
    have hlook1 : ∀ Z, Below Y.heap.size Y Z → (Instr.lookup 146 (.map (some mb)) (.agg #[.int .i64 ((i + s1 : Nat) : Int), .int .i64 ((k + s2 : Nat) : Int)]) false).run Try.prog Z = .ok (.int .i64 (restM L R (i + s1) (k + s2))) Z := fun Z hZ => (ht3.kept (grown_none hZ) (by simp)).look (mem_places m1 m2)
    have hlook2 : ∀ Z, Below Y.heap.size Y Z → (Instr.lookup 146 (.map (some mb)) (.agg #[.int .i64 (i : Int), .int .i64 (k : Int)]) false).run Try.prog Z = .ok (.int .i64 (restM L R i k)) Z := fun Z hZ => (ht3.kept (grown_none hZ) (by simp)).look (mem_places hi hk)
    have hih : ∀ (d' : List (Nat × Nat)) (v' : Value) (Z : World), d'.length + (m - 1) ≤ 3000 → Below w0.heap.size w0 Z → (Z.cell? ⟨pb, 0, none⟩ = some (.slice la nl cl) ∧ Z.cell? ⟨pb, 1, none⟩ = some (.int .u8 0) ∧ Z.cell? ⟨pb, 2, none⟩ = some (.int .i64 0) ∧ Z.cell? ⟨pb, 3, none⟩ = some (.slice ra nr cr) ∧ Z.cell? ⟨pb, 4, none⟩ = some (.int .u8 1) ∧ Z.cell? ⟨pb, 5, none⟩ = some (.int .i64 0) ∧ Z.cell? ⟨pb, 6, none⟩ = some (.slice (some ⟨b, 0, none⟩) 3 3)) → Z.cell? ⟨tb, 0, none⟩ = some (.map (some mb)) → TableAt Z mb nt (restM L R) (placesM nl nr) →
      Z.cell? ⟨fb, 0, none⟩ = some (.func (.func 79) #[] #[.pointer (some ⟨pb, 0, none⟩), .pointer (some ⟨tb, 0, none⟩), .pointer (some ⟨sb, 0, none⟩), .pointer (some ⟨fb, 0, none⟩)]) → Boxed Z sb 27 v' → Z.ownsRow sb 36 2 v' d'.length (flatS d') → ¬ Mine sb Z fb →
      Calls Try.prog 79 #[.agg #[.int .i64 ((i + s1 : Nat) : Int), .int .i64 ((k + s2 : Nat) : Int)], .pointer (some ⟨pb, 0, none⟩), .pointer (some ⟨tb, 0, none⟩), .pointer (some ⟨sb, 0, none⟩), .pointer (some ⟨fb, 0, none⟩)] Z fun e W' => (∃ u, e = .returned u) ∧ (∃ v', Boxed W' sb 27 v' ∧ W'.ownsRow sb 36 2 v' (d' ++ bestM L R (i + s1) (k + s2)).length (flatS (d' ++ bestM L R (i + s1) (k + s2)))) ∧ Keep (Mine sb) Z W' ∧ KeepsOthers Z W' ∧ Below sb Z W' :=
      fun d' v' Z h1 => ih (m - 1) (by omega) (i + s1) (k + s2) d' v' Z (by omega) m1 m2 h1
    obtain ⟨f, hf⟩ : ∃ f, f = restM L R (i + s1) (k + s2) := ⟨_, rfl⟩
    obtain ⟨g, hg⟩ : ∃ g, g = restM L R i k := ⟨_, rfl⟩
    obtain ⟨z, hz⟩ : ∃ z, z = priceAt L R i k (s1, s2) := ⟨_, rfl⟩
    obtain ⟨bs, hbs⟩ : ∃ bs, bs = bestM L R (i + s1) (k + s2) := ⟨_, rfl⟩
    have hfb := restM_bd L R fL.1 fR.1 (i + s1) (k + s2)
    have hgb := restM_bd L R fL.1 fR.1 i k
    have hzb : priceAt L R i k (s1, s2) ≤ 2060 := priceM_le _ _ _ _
    have HFIT : Hid (fitM L R i k (s1, s2) = decide ((z : Int) + f = g)) := hid (by unfold fitM; rw [hf, hg, hz])
    have HBS := hid hbs
    obtain ⟨iu, hiu⟩ : ∃ u, u = i + s1 := ⟨_, rfl⟩
    obtain ⟨ku, hku⟩ : ∃ u, u = k + s2 := ⟨_, rfl⟩
    have HIU := hid hiu
    have HKU := hid hku
    rw [← hbs] at hih
    rw [← hiu, ← hku] at hlook1 hfb hf hih
    have hbehind' := hbehind
    clear hbehind
    rw [← hiu, ← hku] at hbehind'
    have hbehind := hbehind'
    clear hbehind'
    clear hiu hku
    rw [← hf] at hlook1 hfb
    rw [← hg] at hlook2 hgb
    rw [← hz] at hprice hzb
    clear hf hg hz hsm hbs
    have hwr : IntKind.i64.wrap ((z : Int) + f) = (z : Int) + f := by rw [IntKind.wrap_i64]; omega
    have hb0 : Below Y.heap.size Y Y.drew := (Below.refl _ _).drew
    have HXS := hid hxs
    clear hxs
    by_cases hfit : (z : Int) + f = g
    · have hfe : ((z : Int) + f == g) = true := by simp [hfit]
      have HFT := hid hfit
      clear hfit
      gi_wp2_with fail
      refine region_held (S := fun w' : World => w'.cell? ⟨pb, 0, none⟩ = some (.slice la nl cl) ∧ w'.cell? ⟨pb, 1, none⟩ = some (.int .u8 0) ∧ w'.cell? ⟨pb, 2, none⟩ = some (.int .i64 0) ∧ w'.cell? ⟨pb, 3, none⟩ = some (.slice ra nr cr) ∧ w'.cell? ⟨pb, 4, none⟩ = some (.int .u8 1) ∧ w'.cell? ⟨pb, 5, none⟩ = some (.int .i64 0) ∧ w'.cell? ⟨pb, 6, none⟩ = some (.slice (some ⟨b, 0, none⟩) 3 3) ∧ w'.cell? ⟨tb, 0, none⟩ = some (.map (some mb)) ∧ w'.cell? ⟨ab, 0, none⟩ = some (.int .i64 (i : Int)) ∧ w'.cell? ⟨ab, 1, none⟩ = some (.int .i64 (k : Int)) ∧ w'.cell? ⟨Bm, 0, none⟩ = some (.int .i64 (s1 : Int)) ∧ w'.cell? ⟨Bm, 1, none⟩ = some (.int .i64 (s2 : Int)) ∧ w'.cell? ⟨Bm, 2, none⟩ = some (.slice (subA la cl i 2) s1 (cl - i)) ∧ w'.cell? ⟨Bm, 3, none⟩ = some (.int .u8 0) ∧ w'.cell? ⟨Bm, 4, none⟩ = some (.int .i64 (i : Int)) ∧ w'.cell? ⟨Bm, 5, none⟩ = some (.slice (subA ra cr k 2) s2 (cr - k)) ∧ w'.cell? ⟨Bm, 6, none⟩ = some (.int .u8 1) ∧ w'.cell? ⟨Bm, 7, none⟩ = some (.int .i64 (k : Int)) ∧ (Instr.lookup 146 (.map (some mb)) (.agg #[.int .i64 (iu : Int), .int .i64 (ku : Int)]) false).run Try.prog w' = .ok (.int .i64 f) w' ∧ (Instr.lookup 146 (.map (some mb)) (.agg #[.int .i64 (i : Int), .int .i64 (k : Int)]) false).run Try.prog w' = .ok (.int .i64 g) w') (by kernel_rfl) ⟨cell_grown hb0 p0, cell_grown hb0 p1, cell_grown hb0 p2, cell_grown hb0 p3, cell_grown hb0 p4, cell_grown hb0 p5, cell_grown hb0 p6, cell_grown hb0 hm, cell_grown hb0 x0, cell_grown hb0 x1, cell_grown hb0 c0, cell_grown hb0 c1, cell_grown hb0 c2, cell_grown hb0 c3, cell_grown hb0 c4, cell_grown hb0 c5, cell_grown hb0 c6, cell_grown hb0 c7, hlook1 _ hb0, hlook2 _ hb0⟩ (fun hHeld => ?_)
      refine held_take (i := 0) (v := ?_) (plain_of (by kernel_rfl)) rfl (by kernel_rfl) (by kernel_rfl) (by kernel_rfl) (fun _ _ _ h => h) (Or.inl ⟨by rfl, ?_⟩) (fun _ => rfl) (by assumption) ?_
      rotate_left 1
      · intro w hSw
        (try dsimp only at hSw)
        go_simp
        all_goals (with_reducible rfl)
      try simp only [Act.put, List.setIfInBounds_toArray, List.set_cons_zero, List.set_cons_succ]
      refine held_take (i := 1) (v := ?_) (plain_of (by kernel_rfl)) rfl (by kernel_rfl) (by kernel_rfl) (by kernel_rfl) (fun _ _ _ h => h) (Or.inl ⟨by rfl, ?_⟩) (fun _ => rfl) (by assumption) ?_
      rotate_left 1
      · intro w hSw
        (try dsimp only at hSw)
        go_simp
        all_goals (with_reducible rfl)
      try simp only [Act.put, List.setIfInBounds_toArray, List.set_cons_zero, List.set_cons_succ]
      refine held_take (i := 3) (v := ?_) (plain_of (by kernel_rfl)) rfl (by kernel_rfl) (by kernel_rfl) (by kernel_rfl) (fun _ _ _ h => h) (Or.inl ⟨by rfl, ?_⟩) (fun _ => rfl) (by assumption) ?_
      rotate_left 1
      · intro w hSw
        (try dsimp only at hSw)
        go_simp
        all_goals (with_reducible rfl)
      try simp only [Act.put, List.setIfInBounds_toArray, List.set_cons_zero, List.set_cons_succ]
      refine held_take (i := 4) (v := ?_) (plain_of (by kernel_rfl)) rfl (by kernel_rfl) (by kernel_rfl) (by kernel_rfl) (fun _ _ _ h => h) (Or.inl ⟨by rfl, ?_⟩) (fun _ => rfl) (by assumption) ?_
      rotate_left 1
      · intro w hSw
        (try dsimp only at hSw)
        go_simp
        all_goals (with_reducible rfl)
      try simp only [Act.put, List.setIfInBounds_toArray, List.set_cons_zero, List.set_cons_succ]
      refine held_take (i := 8) (v := ?_) (plain_of (by kernel_rfl)) rfl (by kernel_rfl) (by kernel_rfl) (by kernel_rfl) (fun _ _ _ h => h) (Or.inl ⟨by rfl, ?_⟩) (fun _ => rfl) (by assumption) ?_
      rotate_left 1
      · intro w hSw
        (try dsimp only at hSw)
        go_simp
        all_goals (with_reducible rfl)
      try simp only [Act.put, List.setIfInBounds_toArray, List.set_cons_zero, List.set_cons_succ]
      refine held_take (i := 9) (v := ?_) (plain_of (by kernel_rfl)) rfl (by kernel_rfl) (by kernel_rfl) (by kernel_rfl) (fun _ _ _ h => h) (Or.inl ⟨by rfl, ?_⟩) (fun _ => rfl) (by assumption) ?_
      rotate_left 1
      · intro w hSw
        (try dsimp only at hSw)
        go_simp
        all_goals (with_reducible rfl)
      try simp only [Act.put, List.setIfInBounds_toArray, List.set_cons_zero, List.set_cons_succ]
      refine held_take (i := 10) (v := ?_) (plain_of (by kernel_rfl)) rfl (by kernel_rfl) (by kernel_rfl) (by kernel_rfl) (fun _ _ _ h => h) (Or.inl ⟨by rfl, ?_⟩) (fun _ => rfl) (by assumption) ?_
      rotate_left 1
      · intro w hSw
        (try dsimp only at hSw)
        go_simp
        all_goals (with_reducible rfl)
      try simp only [Act.put, List.setIfInBounds_toArray, List.set_cons_zero, List.set_cons_succ]
      refine held_one (i := 2) (by kernel_rfl) rfl (fun K hK => ?_)
      rw [if_pos (by rfl)]
      unfold Oper.wpIn
      refine ⟨fun f _ => hF f, ?_⟩
      go_simp
      refine (CallsIn.inRound l (hprice _ hb0)).mono ?_
      rintro e wp ⟨rfl, hbp⟩
      have hbP := below_then hb0 hbp
      clear hHeld hbp
      refine hK.out _ _ ?_ (fun hHeld => ?_)
      · exact ⟨cell_grown hbP p0, cell_grown hbP p1, cell_grown hbP p2, cell_grown hbP p3, cell_grown hbP p4, cell_grown hbP p5, cell_grown hbP p6, cell_grown hbP hm, cell_grown hbP x0, cell_grown hbP x1, cell_grown hbP c0, cell_grown hbP c1, cell_grown hbP c2, cell_grown hbP c3, cell_grown hbP c4, cell_grown hbP c5, cell_grown hbP c6, cell_grown hbP c7, hlook1 _ hbP, hlook2 _ hbP⟩
      clear hK K
      try simp only [Act.put, List.setIfInBounds_toArray, List.set_cons_zero, List.set_cons_succ]
      refine held_one (i := 5) (by kernel_rfl) rfl (fun K hK => ?_)
      rw [if_pos (by rfl)]
      unfold Oper.wpIn
      refine ⟨fun f _ => hF f, ?_⟩
      go_simp
      refine (CallsIn.inRound l (hbehind _)).mono ?_
      rintro e wq ⟨rfl, hbq⟩
      have hbQ := below_then hbP hbq
      clear hHeld hbq
      refine hK.out _ _ ?_ (fun hHeld => ?_)
      · exact ⟨cell_grown hbQ p0, cell_grown hbQ p1, cell_grown hbQ p2, cell_grown hbQ p3, cell_grown hbQ p4, cell_grown hbQ p5, cell_grown hbQ p6, cell_grown hbQ hm, cell_grown hbQ x0, cell_grown hbQ x1, cell_grown hbQ c0, cell_grown hbQ c1, cell_grown hbQ c2, cell_grown hbQ c3, cell_grown hbQ c4, cell_grown hbQ c5, cell_grown hbQ c6, cell_grown hbQ c7, hlook1 _ hbQ, hlook2 _ hbQ⟩
      clear hK K
      try simp only [Act.put, List.setIfInBounds_toArray, List.set_cons_zero, List.set_cons_succ]
      refine held_take (i := 6) (v := ?_) (plain_of (by kernel_rfl)) rfl (by kernel_rfl) (by kernel_rfl) (by kernel_rfl) (fun _ _ _ h => h) (Or.inl ⟨by rfl, ?_⟩) (fun _ => rfl) (by assumption) ?_
      rotate_left 1
      · intro w hSw
        (try dsimp only at hSw)
        go_simp
        all_goals (with_reducible rfl)
      try simp only [Act.put, List.setIfInBounds_toArray, List.set_cons_zero, List.set_cons_succ]
      refine held_take (i := 7) (v := ?_) (plain_of (by kernel_rfl)) rfl (by kernel_rfl) (by kernel_rfl) (by kernel_rfl) (fun _ _ _ h => h) (Or.inl ⟨by rfl, ?_⟩) (fun _ => rfl) (by assumption) ?_
      rotate_left 1
      · intro w hSw
        (try dsimp only at hSw)
        go_simp
        all_goals (with_reducible rfl)
      try simp only [Act.put, List.setIfInBounds_toArray, List.set_cons_zero, List.set_cons_succ]
      refine held_take (i := 11) (v := ?_) (plain_of (by kernel_rfl)) rfl (by kernel_rfl) (by kernel_rfl) (by kernel_rfl) (fun _ _ _ h => h) (Or.inl ⟨by rfl, ?_⟩) (fun _ => rfl) (by assumption) ?_
      rotate_left 1
      · intro w hSw
        (try dsimp only at hSw)
        go_simp
        all_goals (with_reducible rfl)
      try simp only [Act.put, List.setIfInBounds_toArray, List.set_cons_zero, List.set_cons_succ]
      refine held_done (by kernel_rfl) ?_ _
      clear hHeld hlook1 hlook2 hprice hwr
      have hbF : fitM L R i k (s1, s2) = true := by rw [HFIT.out, decide_eq_true_eq]; exact HFT.out
      have HBF := hid hbF
      clear hbF
      obtain ⟨⟨hv4, hrow4⟩, ht4, hm4, hfc4, hPB4, ⟨xa, xb⟩, -, hb4, hkp4, hot4⟩ := OwnFrom.below hI hi2 hbQ
      have hkQ := hM.below hi2 hbQ
      have nm4 := hkQ.other mb ht3.lt nmb
      have nfb4 := hkQ.other fb (lt_of_cell hfc3) nfb
      have nBm4 := hkQ.other Bm (lt_of_cell c0) hBm
      replace c0 := cell_grown hbQ c0
      replace c1 := cell_grown hbQ c1
      replace c2 := cell_grown hbQ c2
      replace c3 := cell_grown hbQ c3
      replace c4 := cell_grown hbQ c4
      replace c5 := cell_grown hbQ c5
      replace c6 := cell_grown hbQ c6
      replace c7 := cell_grown hbQ c7
      clear hm hfc3 x0 x1 p0 p1 p2 p3 p4 p5 p6 hv3 hrow3 ht3 hb hkp hot
      have hvc := hv4.cell
      have hvf := hv4.frozen
      have gsb := hv4.lt
      obtain ⟨va, vc, rfl⟩ := owns_shape hrow4
      have hbm := lt_of_cell c0
      gi_wp2_with (gi_at_builtin; refine wpListIn_append_at _ rfl _ _ 27 rfl sb 36 i0 (.agg #[.int .i64 0, .int .i64 0]) 2 16 Try.underlying27 hi0 hz0 hz1 hz2 rfl (by decide) _ _ _ rfl (hrow4.alloc _) ⟨wq.heap.size, 0, none⟩ 1 1 [.int .i64 (s1 : Int), .int .i64 (s2 : Int)] rfl rfl (two_new _ _ _ _) (by simp [Value.oneCell']) (by decide) (by unfold maxLen; omega) (by omega) (by simp; omega) ?_; intro v' wa hown' hgrow hat; obtain ⟨g', cap', rfl⟩ := ownsRow_succ hown'; obtain ⟨hv5, hv6, hr6, hk6, hb6⟩ := hv4.appended (by decide) hrow4 (Nat.le_of_lt gsb) (Nat.le_refl _) hown' hgrow; have hc1 := hv5.cell; have hf1 := hv5.frozen)
      obtain ⟨WA, hWA⟩ : ∃ X, X = wa.setCell ⟨sb, 0, none⟩ (.slice (some ⟨g', 0, none⟩) (done.length + 1) cap') := ⟨_, rfl⟩
      have hkA : Keep (Mine sb) wq WA := by rw [hWA]; exact mine_appended hv4 (by decide) hrow4 (Nat.le_of_lt gsb) (Nat.le_refl _) hown' hgrow hat
      have htA : TableAt WA mb nt (restM L R) (placesM nl nr) := by
        rw [hWA]
        exact ((ht4.kept (World.grownBy_alloc _ _ none) (by simp)).kept hgrow (fun e => nm4 ((mine_iff hv4 _).2 (.inr e.symm)))).setCell (show mb ≠ sb by omega) _
      rw [← hWA] at hv6 hr6 hk6 hb6 ⊢
      clear hWA hat hc1 hf1 hv5 hown' hgrow hvc hvf
      have hr6' : WA.ownsRow sb 36 2 (.slice (some ⟨g', 0, none⟩) (done.length + 1) cap') (done ++ [(s1, s2)]).length (flatS (done ++ [(s1, s2)])) := by
        rw [flatS_append, List.length_append]
        exact hr6
      have nfbA := hkA.other fb (lt_of_cell hfc4) nfb4
      have nBmA := hkA.other Bm hbm nBm4
      have hfcA := hkA.cell nfb4 hfc4
      have k0 := hkA.cell nBm4 c0
      have k1 := hkA.cell nBm4 c1
      have k2 := hkA.cell nBm4 c2
      have k3 := hkA.cell nBm4 c3
      have k4 := hkA.cell nBm4 c4
      have k5 := hkA.cell nBm4 c5
      have k6 := hkA.cell nBm4 c6
      have k7 := hkA.cell nBm4 c7
      have hbA0 : Below WA.heap.size WA WA.drew := (Below.refl _ _).drew
      refine region_held (S := fun w' : World => w'.cell? ⟨fb, 0, none⟩ = some (.func (.func 79) #[] #[.pointer (some ⟨pb, 0, none⟩), .pointer (some ⟨tb, 0, none⟩), .pointer (some ⟨sb, 0, none⟩), .pointer (some ⟨fb, 0, none⟩)]) ∧ w'.cell? ⟨Bm, 0, none⟩ = some (.int .i64 (s1 : Int)) ∧ w'.cell? ⟨Bm, 1, none⟩ = some (.int .i64 (s2 : Int)) ∧ w'.cell? ⟨Bm, 2, none⟩ = some (.slice (subA la cl i 2) s1 (cl - i)) ∧ w'.cell? ⟨Bm, 3, none⟩ = some (.int .u8 0) ∧ w'.cell? ⟨Bm, 4, none⟩ = some (.int .i64 (i : Int)) ∧ w'.cell? ⟨Bm, 5, none⟩ = some (.slice (subA ra cr k 2) s2 (cr - k)) ∧ w'.cell? ⟨Bm, 6, none⟩ = some (.int .u8 1) ∧ w'.cell? ⟨Bm, 7, none⟩ = some (.int .i64 (k : Int))) (by kernel_rfl) ⟨cell_grown hbA0 hfcA, cell_grown hbA0 k0, cell_grown hbA0 k1, cell_grown hbA0 k2, cell_grown hbA0 k3, cell_grown hbA0 k4, cell_grown hbA0 k5, cell_grown hbA0 k6, cell_grown hbA0 k7⟩ (fun hHeld => ?_)
      refine held_take (i := 0) (v := ?_) (plain_of (by kernel_rfl)) rfl (by kernel_rfl) (by kernel_rfl) (by kernel_rfl) (fun _ _ _ h => h) (Or.inl ⟨by rfl, ?_⟩) (fun _ => rfl) (by assumption) ?_
      rotate_left 1
      · intro w hSw
        (try dsimp only at hSw)
        go_simp
        all_goals (with_reducible rfl)
      try simp only [Act.put, List.setIfInBounds_toArray, List.set_cons_zero, List.set_cons_succ]
      refine held_take (i := 1) (v := ?_) (plain_of (by kernel_rfl)) rfl (by kernel_rfl) (by kernel_rfl) (by kernel_rfl) (fun _ _ _ h => h) (Or.inl ⟨by rfl, ?_⟩) (fun _ => rfl) (by assumption) ?_
      rotate_left 1
      · intro w hSw
        (try dsimp only at hSw)
        go_simp
        all_goals (with_reducible rfl)
      try simp only [Act.put, List.setIfInBounds_toArray, List.set_cons_zero, List.set_cons_succ]
      refine held_one (i := 2) (by kernel_rfl) rfl (fun K hK => ?_)
      rw [if_pos (by rfl)]
      unfold Oper.wpIn
      refine ⟨fun f _ => hF f, ?_⟩
      go_simp
      refine (CallsIn.inRound l (hbehind _)).mono ?_
      rintro e wy ⟨rfl, hby⟩
      have hbY := below_then hbA0 hby
      clear hHeld hby
      refine hK.out _ _ ?_ (fun hHeld => ?_)
      · exact ⟨cell_grown hbY hfcA, cell_grown hbY k0, cell_grown hbY k1, cell_grown hbY k2, cell_grown hbY k3, cell_grown hbY k4, cell_grown hbY k5, cell_grown hbY k6, cell_grown hbY k7⟩
      clear hK K
      try simp only [Act.put, List.setIfInBounds_toArray, List.set_cons_zero, List.set_cons_succ]
      have hkY := keep_below hv6 hbY
      have hvY := book_boxed hv6 (grown_none hbY) (fun r e => by cases e)
      have hrY := book_owns hr6' (grown_none hbY) (fun r e => by cases e)
      have hm0 : 1 ≤ m := by omega
      have hbwY : Below w0.heap.size w0 wy := (((hbw0.trans (hbQ.mono hbw0.size)).trans (hb6.mono hw0)).trans (hbY.mono (by have h1 := hbw0.size; have h2 := hbQ.size; have h3 := hb6.size; omega)))
      have hkAY := hkA.trans hkY
      have np4 : ¬ Mine sb wq pb := not_mine_old hv4 hrow4 hpb
      have ntb4 : ¬ Mine sb wq tb := not_mine_old hv4 hrow4 htb
      have hcall := hih (done ++ [(s1, s2)]) _ wy (by rw [List.length_append]; simp; omega) hbwY ⟨hkAY.cell np4 hPB4.1, hkAY.cell np4 hPB4.2.1, hkAY.cell np4 hPB4.2.2.1, hkAY.cell np4 hPB4.2.2.2.1, hkAY.cell np4 hPB4.2.2.2.2.1, hkAY.cell np4 hPB4.2.2.2.2.2.1, hkAY.cell np4 hPB4.2.2.2.2.2.2⟩ (hkAY.cell ntb4 hm4) (htA.kept (grown_none hbY) (by simp)) (hkY.cell nfbA hfcA) hvY hrY (hkY.other fb (lt_of_cell hfcA) nfbA)
      refine held_one (i := 3) (by kernel_rfl) rfl (fun K hK => ?_)
      rw [if_pos (by rfl)]
      unfold Oper.wpIn
      refine ⟨fun f _ => hF f, ?_⟩
      go_simp
      refine (CallsIn.inRound l (hc hcall)).mono ?_
      rintro e wz ⟨⟨u, rfl⟩, ⟨v2, hv7, hrow7⟩, hk7, ho7, hb7⟩
      clear hcall hHeld hih
      have nfbY := hkY.other fb (lt_of_cell hfcA) nfbA
      have nBmY := hkY.other Bm (lt_of_cell k0) nBmA
      refine hK.out _ _ ?_ (fun hHeld => ?_)
      · exact ⟨hk7.cell nfbY (hkY.cell nfbA hfcA), hk7.cell nBmY (hkY.cell nBmA k0), hk7.cell nBmY (hkY.cell nBmA k1), hk7.cell nBmY (hkY.cell nBmA k2), hk7.cell nBmY (hkY.cell nBmA k3), hk7.cell nBmY (hkY.cell nBmA k4), hk7.cell nBmY (hkY.cell nBmA k5), hk7.cell nBmY (hkY.cell nBmA k6), hk7.cell nBmY (hkY.cell nBmA k7)⟩
      clear hK K
      try simp only [Act.put, List.setIfInBounds_toArray, List.set_cons_zero, List.set_cons_succ]
      refine held_done (by kernel_rfl) ?_ _
      clear hHeld
      gi_wp2_with fail
      have hkF := ((hkQ.trans hkA).trans hkY).trans hk7
      have hoF : KeepsOthers Y wz := (((others_below hbQ).trans hk6).trans (others_below hbY)).trans ho7
      refine ⟨hoF.from _, hkF.toC, rfl, pre, (s1, s2), v2, rfl, hpre, HBF.out, ⟨hv7, ?_⟩, ?_, ?_, ?_⟩
      · have h := hrow7
        rw [HBS.out] at h
        simpa using h
      · exact ((hb4.trans hb6).trans (hbY.mono (by have h3 := hb6.size; omega))).trans hb7
      · exact ((hkp4.trans hkA).trans hkY).trans hk7
      · exact ((hot4.trans hk6).trans (others_below hbY)).trans ho7
    · have hfe : ((z : Int) + f == g) = false := by simp [hfit]
      have HFT := hid hfit
      clear hfit
      gi_wp2_with fail
      refine region_held (S := fun w' : World => w'.cell? ⟨pb, 0, none⟩ = some (.slice la nl cl) ∧ w'.cell? ⟨pb, 1, none⟩ = some (.int .u8 0) ∧ w'.cell? ⟨pb, 2, none⟩ = some (.int .i64 0) ∧ w'.cell? ⟨pb, 3, none⟩ = some (.slice ra nr cr) ∧ w'.cell? ⟨pb, 4, none⟩ = some (.int .u8 1) ∧ w'.cell? ⟨pb, 5, none⟩ = some (.int .i64 0) ∧ w'.cell? ⟨pb, 6, none⟩ = some (.slice (some ⟨b, 0, none⟩) 3 3) ∧ w'.cell? ⟨tb, 0, none⟩ = some (.map (some mb)) ∧ w'.cell? ⟨ab, 0, none⟩ = some (.int .i64 (i : Int)) ∧ w'.cell? ⟨ab, 1, none⟩ = some (.int .i64 (k : Int)) ∧ w'.cell? ⟨Bm, 0, none⟩ = some (.int .i64 (s1 : Int)) ∧ w'.cell? ⟨Bm, 1, none⟩ = some (.int .i64 (s2 : Int)) ∧ w'.cell? ⟨Bm, 2, none⟩ = some (.slice (subA la cl i 2) s1 (cl - i)) ∧ w'.cell? ⟨Bm, 3, none⟩ = some (.int .u8 0) ∧ w'.cell? ⟨Bm, 4, none⟩ = some (.int .i64 (i : Int)) ∧ w'.cell? ⟨Bm, 5, none⟩ = some (.slice (subA ra cr k 2) s2 (cr - k)) ∧ w'.cell? ⟨Bm, 6, none⟩ = some (.int .u8 1) ∧ w'.cell? ⟨Bm, 7, none⟩ = some (.int .i64 (k : Int)) ∧ (Instr.lookup 146 (.map (some mb)) (.agg #[.int .i64 (iu : Int), .int .i64 (ku : Int)]) false).run Try.prog w' = .ok (.int .i64 f) w' ∧ (Instr.lookup 146 (.map (some mb)) (.agg #[.int .i64 (i : Int), .int .i64 (k : Int)]) false).run Try.prog w' = .ok (.int .i64 g) w') (by kernel_rfl) ⟨cell_grown hb0 p0, cell_grown hb0 p1, cell_grown hb0 p2, cell_grown hb0 p3, cell_grown hb0 p4, cell_grown hb0 p5, cell_grown hb0 p6, cell_grown hb0 hm, cell_grown hb0 x0, cell_grown hb0 x1, cell_grown hb0 c0, cell_grown hb0 c1, cell_grown hb0 c2, cell_grown hb0 c3, cell_grown hb0 c4, cell_grown hb0 c5, cell_grown hb0 c6, cell_grown hb0 c7, hlook1 _ hb0, hlook2 _ hb0⟩ (fun hHeld => ?_)
      refine held_take (i := 0) (v := ?_) (plain_of (by kernel_rfl)) rfl (by kernel_rfl) (by kernel_rfl) (by kernel_rfl) (fun _ _ _ h => h) (Or.inl ⟨by rfl, ?_⟩) (fun _ => rfl) (by assumption) ?_
      rotate_left 1
      · intro w hSw
        (try dsimp only at hSw)
        go_simp
        all_goals (with_reducible rfl)
      try simp only [Act.put, List.setIfInBounds_toArray, List.set_cons_zero, List.set_cons_succ]
      refine held_take (i := 1) (v := ?_) (plain_of (by kernel_rfl)) rfl (by kernel_rfl) (by kernel_rfl) (by kernel_rfl) (fun _ _ _ h => h) (Or.inl ⟨by rfl, ?_⟩) (fun _ => rfl) (by assumption) ?_
      rotate_left 1
      · intro w hSw
        (try dsimp only at hSw)
        go_simp
        all_goals (with_reducible rfl)
      try simp only [Act.put, List.setIfInBounds_toArray, List.set_cons_zero, List.set_cons_succ]
      refine held_take (i := 3) (v := ?_) (plain_of (by kernel_rfl)) rfl (by kernel_rfl) (by kernel_rfl) (by kernel_rfl) (fun _ _ _ h => h) (Or.inl ⟨by rfl, ?_⟩) (fun _ => rfl) (by assumption) ?_
      rotate_left 1
      · intro w hSw
        (try dsimp only at hSw)
        go_simp
        all_goals (with_reducible rfl)
      try simp only [Act.put, List.setIfInBounds_toArray, List.set_cons_zero, List.set_cons_succ]
      refine held_take (i := 4) (v := ?_) (plain_of (by kernel_rfl)) rfl (by kernel_rfl) (by kernel_rfl) (by kernel_rfl) (fun _ _ _ h => h) (Or.inl ⟨by rfl, ?_⟩) (fun _ => rfl) (by assumption) ?_
      rotate_left 1
      · intro w hSw
        (try dsimp only at hSw)
        go_simp
        all_goals (with_reducible rfl)
      try simp only [Act.put, List.setIfInBounds_toArray, List.set_cons_zero, List.set_cons_succ]
      refine held_take (i := 8) (v := ?_) (plain_of (by kernel_rfl)) rfl (by kernel_rfl) (by kernel_rfl) (by kernel_rfl) (fun _ _ _ h => h) (Or.inl ⟨by rfl, ?_⟩) (fun _ => rfl) (by assumption) ?_
      rotate_left 1
      · intro w hSw
        (try dsimp only at hSw)
        go_simp
        all_goals (with_reducible rfl)
      try simp only [Act.put, List.setIfInBounds_toArray, List.set_cons_zero, List.set_cons_succ]
      refine held_take (i := 9) (v := ?_) (plain_of (by kernel_rfl)) rfl (by kernel_rfl) (by kernel_rfl) (by kernel_rfl) (fun _ _ _ h => h) (Or.inl ⟨by rfl, ?_⟩) (fun _ => rfl) (by assumption) ?_
      rotate_left 1
      · intro w hSw
        (try dsimp only at hSw)
        go_simp
        all_goals (with_reducible rfl)
      try simp only [Act.put, List.setIfInBounds_toArray, List.set_cons_zero, List.set_cons_succ]
      refine held_take (i := 10) (v := ?_) (plain_of (by kernel_rfl)) rfl (by kernel_rfl) (by kernel_rfl) (by kernel_rfl) (fun _ _ _ h => h) (Or.inl ⟨by rfl, ?_⟩) (fun _ => rfl) (by assumption) ?_
      rotate_left 1
      · intro w hSw
        (try dsimp only at hSw)
        go_simp
        all_goals (with_reducible rfl)
      try simp only [Act.put, List.setIfInBounds_toArray, List.set_cons_zero, List.set_cons_succ]
      refine held_one (i := 2) (by kernel_rfl) rfl (fun K hK => ?_)
      rw [if_pos (by rfl)]
      unfold Oper.wpIn
      refine ⟨fun f _ => hF f, ?_⟩
      go_simp
      refine (CallsIn.inRound l (hprice _ hb0)).mono ?_
      rintro e wp ⟨rfl, hbp⟩
      have hbP := below_then hb0 hbp
      clear hHeld hbp
      refine hK.out _ _ ?_ (fun hHeld => ?_)
      · exact ⟨cell_grown hbP p0, cell_grown hbP p1, cell_grown hbP p2, cell_grown hbP p3, cell_grown hbP p4, cell_grown hbP p5, cell_grown hbP p6, cell_grown hbP hm, cell_grown hbP x0, cell_grown hbP x1, cell_grown hbP c0, cell_grown hbP c1, cell_grown hbP c2, cell_grown hbP c3, cell_grown hbP c4, cell_grown hbP c5, cell_grown hbP c6, cell_grown hbP c7, hlook1 _ hbP, hlook2 _ hbP⟩
      clear hK K
      try simp only [Act.put, List.setIfInBounds_toArray, List.set_cons_zero, List.set_cons_succ]
      refine held_one (i := 5) (by kernel_rfl) rfl (fun K hK => ?_)
      rw [if_pos (by rfl)]
      unfold Oper.wpIn
      refine ⟨fun f _ => hF f, ?_⟩
      go_simp
      refine (CallsIn.inRound l (hbehind _)).mono ?_
      rintro e wq ⟨rfl, hbq⟩
      have hbQ := below_then hbP hbq
      clear hHeld hbq
      refine hK.out _ _ ?_ (fun hHeld => ?_)
      · exact ⟨cell_grown hbQ p0, cell_grown hbQ p1, cell_grown hbQ p2, cell_grown hbQ p3, cell_grown hbQ p4, cell_grown hbQ p5, cell_grown hbQ p6, cell_grown hbQ hm, cell_grown hbQ x0, cell_grown hbQ x1, cell_grown hbQ c0, cell_grown hbQ c1, cell_grown hbQ c2, cell_grown hbQ c3, cell_grown hbQ c4, cell_grown hbQ c5, cell_grown hbQ c6, cell_grown hbQ c7, hlook1 _ hbQ, hlook2 _ hbQ⟩
      clear hK K
      try simp only [Act.put, List.setIfInBounds_toArray, List.set_cons_zero, List.set_cons_succ]
      refine held_take (i := 6) (v := ?_) (plain_of (by kernel_rfl)) rfl (by kernel_rfl) (by kernel_rfl) (by kernel_rfl) (fun _ _ _ h => h) (Or.inl ⟨by rfl, ?_⟩) (fun _ => rfl) (by assumption) ?_
      rotate_left 1
      · intro w hSw
        (try dsimp only at hSw)
        go_simp
        all_goals (with_reducible rfl)
      try simp only [Act.put, List.setIfInBounds_toArray, List.set_cons_zero, List.set_cons_succ]
      refine held_take (i := 7) (v := ?_) (plain_of (by kernel_rfl)) rfl (by kernel_rfl) (by kernel_rfl) (by kernel_rfl) (fun _ _ _ h => h) (Or.inl ⟨by rfl, ?_⟩) (fun _ => rfl) (by assumption) ?_
      rotate_left 1
      · intro w hSw
        (try dsimp only at hSw)
        go_simp
        all_goals (with_reducible rfl)
      try simp only [Act.put, List.setIfInBounds_toArray, List.set_cons_zero, List.set_cons_succ]
      refine held_take (i := 11) (v := ?_) (plain_of (by kernel_rfl)) rfl (by kernel_rfl) (by kernel_rfl) (by kernel_rfl) (fun _ _ _ h => h) (Or.inl ⟨by rfl, ?_⟩) (fun _ => rfl) (by assumption) ?_
      rotate_left 1
      · intro w hSw
        (try dsimp only at hSw)
        go_simp
        all_goals (with_reducible rfl)
      try simp only [Act.put, List.setIfInBounds_toArray, List.set_cons_zero, List.set_cons_succ]
      refine held_done (by kernel_rfl) ?_ _
      clear hHeld hlook1 hlook2 hprice hwr
      have hbF : fitM L R i k (s1, s2) = false := by rw [HFIT.out, decide_eq_false_iff_not]; exact HFT.out
      gi_wp2_with fail
      refine ⟨KeepsFrom.of_grownBy (grown_none hbQ) (fun j e => by cases e), hM.below hi2 hbQ, ?_⟩
      obtain ⟨⟨k1, k2⟩, k3, k4, k5, k6, k7, -, k9, k10, k11⟩ := OwnFrom.below hI hi2 hbQ
      refine ⟨⟨k1, k2⟩, k3, k4, k5, k6, k7, fun t ht => ?_, k9, k10, k11⟩
      rcases List.mem_append.1 ht with e | e
      · exact hpre t e
      · rw [List.mem_singleton] at e; rw [e]; exact hbF

end Go.Proofs.Ytohahlnhbppnhaa
