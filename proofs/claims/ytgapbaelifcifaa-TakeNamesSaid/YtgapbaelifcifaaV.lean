/- Contract of cut: the takes of a sitting, or its error. -/
import Derived.Test.YtgapbaelifcifaaT
import Derived.Test.YtgapbaelifcifaaU
namespace Go.Proofs.Ytgapbaelifcifaa
open Go.RowKit Go.Shelf

attribute [local go_sem] Oper.semAt_some

variable {F : Fence} {n : Nat}

set_option maxHeartbeats 400000 in
theorem pieces_in (hF : ∀ f, F.fn f) (hro : F.round = none) (a : Option Addr) (m cap : Nat) (len long short : Int) (w : World) :
    CallsIn F n Try.prog 71 #[.agg #[.int .i64 len, .slice a m cap, .int .i64 long, .int .i64 short]] w fun e w' =>
      e = .returned (.func (.func 86) #[] #[.pointer (some ⟨w.heap.size, 0, none⟩)]) ∧ w.alloc (.cells #[.int .i64 len, .slice a m cap, .int .i64 long, .int .i64 short] 34) = w' := by
  refine callsIn_of_wp Try.func71 rfl (hF _) ?_ hro
  simp only [Try.ntmps71, List.size_toArray, List.length_cons, List.length_nil, Nat.reduceAdd, Nat.reduceSub, Array.replicate_succ, Array.replicate_zero, List.push_toArray, List.append_toArray, List.nil_append, List.cons_append]
  gi_wp2
  go_ret
  exact ⟨rfl, rfl⟩

def takesOf (len long short : Int) (L : List (Int × Int)) : List (Int × Int) := (strs len 0 L).flatMap (piecesOf long short)

theorem Try.info82 : (Try.prog.info? 82).map (fun i => (i.zero, i.size, i.bytes)) = some (some (.agg #[.int .i64 0, .int .i64 0]), 2, 16) := by kernel_rfl

theorem strs_bd {len : Int} : ∀ (L : List (Int × Int)) (f : Int), 0 ≤ f → (∀ p ∈ L, 0 ≤ p.2 ∧ p.1 ≤ len) → ∀ x ∈ strs len f L, 0 ≤ x.1 ∧ x.2 ≤ len := by
  intro L
  induction L with
  | nil =>
    intro f hf _ x hx
    unfold strs at hx
    split at hx
    · simp at hx; subst hx; exact ⟨hf, Int.le_refl _⟩
    · simp at hx
  | cons p ps ih =>
    intro f hf hp x hx
    unfold strs at hx
    have h1 := hp p (by simp)
    split at hx
    · simp only [List.mem_cons] at hx
      rcases hx with rfl | hx
      · exact ⟨hf, h1.2⟩
      · exact ih p.2 h1.1 (fun q hq => hp q (by simp [hq])) x hx
    · exact ih p.2 h1.1 (fun q hq => hp q (by simp [hq])) x hx

theorem pausesOk_bd {len : Int} {L : List (Int × Int)} (h : pausesOk len L = true) : ∀ p ∈ L, 0 ≤ p.2 ∧ p.1 ≤ len := by
  intro p hp
  obtain ⟨i, hi, rfl⟩ := List.getElem_of_mem hp
  unfold pausesOk at h
  rw [List.all_eq_true] at h
  have h1 := h i (by simpa using hi)
  have e : L.getD i (0, 0) = L[i] := by simp [List.getElem?_eq_getElem hi]
  have h2 : okSpan (L.getD i (0, 0)).1 (L.getD i (0, 0)).2 len = true := by
    cases i with
    | zero => exact h1
    | succ i =>
      simp only [pauseOk, Bool.and_eq_true] at h1
      exact h1.2
  rw [e] at h2
  unfold okSpan at h2
  simp only [decide_eq_true_eq] at h2
  omega

theorem book_boxed {A A' : World} {row : Option Nat} {b : Nat} {t : TypeId} {v : Value} (h : Boxed A b t v) (hg : A.grownBy A' row) (hr : ∀ r, row = some r → ∃ o : Obj, A.heap[r]? = some o ∧ o.isCells = false) : Boxed A' b t v :=
  h.kept hg (fun e' => by
    obtain ⟨o, ho, hc⟩ := hr b e'.symm
    rw [show A.heap[b]? = _ from h] at ho; cases ho; cases hc)

theorem book_owns {A A' : World} {row : Option Nat} {base : Nat} {e : TypeId} {size : Nat} {v : Value} {k : Nat} {xs : List Value} (h : A.ownsRow base e size v k xs) (hg : A.grownBy A' row) (hr : ∀ r, row = some r → ∃ o : Obj, A.heap[r]? = some o ∧ o.isCells = false) : A'.ownsRow base e size v k xs := by
  refine h.kept hg ?_
  rcases h.2 with ⟨rfl, _⟩ | ⟨g, cap, cur, rfl, _, hgb, _⟩
  · exact .inl rfl
  · refine .inr fun e' => ?_
    obtain ⟨o, ho, hc⟩ := hr g (by simpa [Value.ownBlock] using e'.symm)
    rw [hgb] at ho; cases ho; cases hc

theorem owns_shape {W : World} {base : Nat} {e : TypeId} {size : Nat} {v : Value} {k : Nat} {xs : List Value} (h : W.ownsRow base e size v k xs) : ∃ a cap, v = .slice a k cap := by
  rcases h.2 with ⟨rfl, rfl⟩ | ⟨g, cap, _, rfl, _⟩
  · exact ⟨none, 0, rfl⟩
  · exact ⟨some ⟨g, 0, none⟩, cap, rfl⟩

theorem spans_of_owns {W : World} {base : Nat} {e : TypeId} {a : Option Addr} {cap : Nat} {T : List (Int × Int)} (h : W.ownsRow base e 2 (.slice a T.length cap) T.length (flat2 T)) : Spans W a T := by
  intro i hi
  rcases h.2 with ⟨_, h0⟩ | ⟨g, cap', cur, hv, _, hg, _⟩
  · omega
  · simp only [Value.slice.injEq] at hv
    obtain ⟨rfl, -, -⟩ := hv
    have hc := h.cells (g := g) rfl
    have hadd : ∀ j, (⟨g, 0, none⟩ : Addr).add j = ⟨g, 0 + j, none⟩ := fun j => by unfold Addr.add; split <;> simp_all
    obtain ⟨e1, e2⟩ := flat2_get T i hi
    have c1 := hc _ _ e1
    have c2 := hc _ _ e2
    rw [hadd] at c1 c2
    exact ⟨g, 0, rfl, c1, by rw [Nat.add_assoc]; exact c2⟩

/-- What cut returns, with its memory. -/
def CutPost (len long short : Int) (L : List (Int × Int)) (w : World) (e : Ending) (w' : World) : Prop :=
  Below w.heap.size w w' ∧ if sitOk len long short L = false then e = .returned (.tuple #[.slice none 0 0, .int .i64 1])
    else if 40 < (takesOf len long short L).length then e = .returned (.tuple #[.slice none 0 0, .int .i64 3])
    else ∃ a cap, e = .returned (.tuple #[.slice a (takesOf len long short L).length cap, .int .i64 0]) ∧ Spans w' a (takesOf len long short L) ∧ ∀ b off, a = some ⟨b, off, none⟩ → w.heap.size ≤ b

set_option maxRecDepth 100000 in
set_option maxHeartbeats 1000000 in
theorem cut_any (L : List (Int × Int)) (len long short : Int) (m cap : Nat) (a : Option Addr) (w : World)
    (hL : L.length = m) (hm : m ≤ maxLen) (hS : Spans w a L) :
    Calls Try.prog 51 #[.agg #[.int .i64 len, .slice a m cap, .int .i64 long, .int .i64 short]] w (CutPost len long short L w) := by
  obtain ⟨F, hFw⟩ : ∃ F, F = Fence.wide := ⟨_, rfl⟩
  have hF : ∀ f, F.fn f := fun f => by rw [hFw]; exact trivial
  have hro : F.round = none := by rw [hFw]; rfl
  have hd : F.depth = none := by rw [hFw]; rfl
  have hc : ∀ {n : Nat} {f args w R}, Calls Try.prog f args w R → CallsIn F n Try.prog f args w R := fun h => by rw [hFw]; exact callsIn_wide.2 h
  suffices h : CallsIn F 9 Try.prog 51 #[.agg #[.int .i64 len, .slice a m cap, .int .i64 long, .int .i64 short]] w (CutPost len long short L w) by
    rw [hFw] at h; exact callsIn_wide.1 h
  clear hFw
  obtain ⟨n, hn⟩ : ∃ n, n = 9 := ⟨_, rfl⟩
  rw [← hn]
  have hn3 : 6 ≤ n := by omega
  have h1 : 1 ≤ n := by omega
  clear hn
  obtain ⟨i0, hi, hz0, hz1, hz2⟩ := info_parts Try.info82
  by_cases hok : sitOk len long short L = true
  · refine callsIn_of_wp_marks Try.func51 rfl (hF _) ?_ hro
    simp only [Try.ntmps51, List.size_toArray, List.length_cons, List.length_nil, Nat.reduceAdd, Nat.reduceSub, Array.replicate_succ, Array.replicate_zero, List.push_toArray, List.append_toArray, List.nil_append, List.cons_append]
    gi_wp2_with fail
    obtain ⟨W0, hW0⟩ : ∃ W0, W0 = ((w.alloc (.cells #[.int .i64 len, .slice a m cap, .int .i64 long, .int .i64 short] 34)).alloc (.cells #[.slice none 0 0] 32)).alloc (.cells #[.int .i64 0] 30) := ⟨_, rfl⟩
    have hB0 : Below w.heap.size w W0 := by rw [hW0]; exact (((Below.refl _ w).alloc (Nat.le_refl _) _).alloc (by simp) _).alloc (by simp; omega) _
    have z0 : W0.heap.size = w.heap.size + 3 := by rw [hW0]; simp
    have c0 : W0.cell? ⟨w.heap.size, 0, none⟩ = some (.int .i64 len) := by rw [hW0]; simp [go_sem]
    have c1 : W0.cell? ⟨w.heap.size, 1, none⟩ = some (.slice a m cap) := by rw [hW0]; simp [go_sem]
    have c2 : W0.cell? ⟨w.heap.size, 2, none⟩ = some (.int .i64 long) := by rw [hW0]; simp [go_sem]
    have c3 : W0.cell? ⟨w.heap.size, 3, none⟩ = some (.int .i64 short) := by rw [hW0]; simp [go_sem]
    have x2 : Boxed W0 (w.heap.size + 1) 32 (.slice none 0 0) := by rw [hW0]; have := Boxed.new (w.alloc (.cells #[.int .i64 len, .slice a m cap, .int .i64 long, .int .i64 short] 34)) 32 (.slice none 0 0); rw [World.size_alloc] at this; exact this.alloc _
    have x3 : Boxed W0 (w.heap.size + 2) 30 (.int .i64 0) := by rw [hW0]; have := Boxed.new ((w.alloc (.cells #[.int .i64 len, .slice a m cap, .int .i64 long, .int .i64 short] 34)).alloc (.cells #[.slice none 0 0] 32)) 30 (.int .i64 0); rw [World.size_alloc, World.size_alloc] at this; exact this
    rw [← hW0]
    clear hW0
    refine (hc (validSitting_any L len long short m cap a _ hL hm (hS.grown hB0))).mono ?_
    rintro e w1 ⟨rfl, hb⟩
    have hB1 : Below w.heap.size w w1 := hB0.trans (hb.mono hB0.size)
    have z1 : w.heap.size + 3 ≤ w1.heap.size := by have := hb.size; omega
    replace c0 := cell_grown hb c0
    replace c1 := cell_grown hb c1
    replace c2 := cell_grown hb c2
    replace c3 := cell_grown hb c3
    have y2 : Boxed w1 (w.heap.size + 1) 32 (.slice none 0 0) := (hb.block _ (by omega)).trans x2
    have y3 : Boxed w1 (w.heap.size + 2) 30 (.int .i64 0) := (hb.block _ (by omega)).trans x3
    clear x2 x3 z0 hb hB0
    clear W0
    have zl : w.heap.size < w1.heap.size := by omega
    gi_wp2_with (gi_at_call 71; refine (pieces_in (F := F) (n := n - 1) hF hro a m cap len long short _).mono ?_; rintro e w' ⟨rfl, rfl⟩)
    have hbd : ∀ x ∈ strs len 0 L, 0 ≤ x.1 ∧ x.2 ≤ 36000 := by
      simp only [sitOk, Bool.and_eq_true] at hok
      have hl : len ≤ 36000 := by have := hok.1; simp [inB] at this; omega
      intro x hx
      have := strs_bd L 0 (Int.le_refl _) (pausesOk_bd hok.2.2.2) x hx
      omega
    have hlong : 1 ≤ long ∧ long ≤ 1200 ∧ 1 ≤ short ∧ short ≤ long := by
      simp only [sitOk, Bool.and_eq_true] at hok
      have e1 := hok.2.1
      have e2 := hok.2.2.1
      simp [inB] at e1 e2
      omega
    obtain ⟨l1, l2, l3, l4⟩ := hlong
    have HOK := hid hok
    clear hok
    have bl := Boxed.new w1 32 (.slice none 0 0)
    have hB3 : Below w1.heap.size w1 ((w1.alloc (.cells #[.slice none 0 0] 32)).alloc (.cells #[.int .i64 len, .slice a m cap, .int .i64 long, .int .i64 short] 34)) := ((Below.refl _ w1).alloc (Nat.le_refl _) _).alloc (by simp) _
    have q0 : ((w1.alloc (.cells #[.slice none 0 0] 32)).alloc (.cells #[.int .i64 len, .slice a m cap, .int .i64 long, .int .i64 short] 34)).cell? ⟨w1.heap.size + 1, 0, none⟩ = some (.int .i64 len) := by simp [go_sem]
    have q1 : ((w1.alloc (.cells #[.slice none 0 0] 32)).alloc (.cells #[.int .i64 len, .slice a m cap, .int .i64 long, .int .i64 short] 34)).cell? ⟨w1.heap.size + 1, 1, none⟩ = some (.slice a m cap) := by simp [go_sem]
    have q2 : ((w1.alloc (.cells #[.slice none 0 0] 32)).alloc (.cells #[.int .i64 len, .slice a m cap, .int .i64 long, .int .i64 short] 34)).cell? ⟨w1.heap.size + 1, 2, none⟩ = some (.int .i64 long) := by simp [go_sem]
    have q3 : ((w1.alloc (.cells #[.slice none 0 0] 32)).alloc (.cells #[.int .i64 len, .slice a m cap, .int .i64 long, .int .i64 short] 34)).cell? ⟨w1.heap.size + 1, 3, none⟩ = some (.int .i64 short) := by simp [go_sem]
    let I : List (Int × Int) → World → Prop := fun pre X => (∃ v, Boxed X w1.heap.size 32 v ∧ X.ownsRow w.heap.size 82 2 v pre.length (flat2 pre)) ∧ pre.length ≤ 40 ∧ Boxed X (w.heap.size + 1) 32 (.slice none 0 0) ∧ Boxed X (w.heap.size + 2) 30 (.int .i64 0) ∧ Below w.heap.size w X
    have hI : OwnFrom (w1.heap.size + 2) I := fun s A B row hs hg hr => by
      obtain ⟨⟨v, hv, hrow⟩, hle, r2, r3, hb⟩ := hs
      have hr' : ∀ r, row = some r → ∃ o : Obj, A.heap[r]? = some o ∧ o.isCells = false := fun r e => (hr r e).2
      exact ⟨⟨v, book_boxed hv hg hr', book_owns hrow hg hr'⟩, hle, book_boxed r2 hg hr', book_boxed r3 hg hr', hb.grown hg hb.size (fun r e => by have := (hr r e).1; omega)⟩
    have zW : ((w1.alloc (.cells #[.slice none 0 0] 32)).alloc (.cells #[.int .i64 len, .slice a m cap, .int .i64 long, .int .i64 short] 34)).heap.size = w1.heap.size + 2 := by simp
    have hM : MineOk (w1.heap.size + 2) I (Mine w1.heap.size) := mine_ok (t := 32) (n₀ := w.heap.size) (e := 82) (size := 2) fun s X ⟨⟨v, hv, hrow⟩, _⟩ => ⟨v, _, _, hv, hrow⟩
    refine rangeO hro h1 (gf := 86) (lb := #[.pointer (some ⟨w1.heap.size + 1, 0, none⟩)]) rfl (hF _) (enters_of Try.func86 (by kernel_rfl) rfl)
      (encs := encSp) (Res := fun k => k = w1.heap.size + 1 ∨ 0 < m ∧ ∃ off, a = some ⟨k, off, none⟩) (xs := takesOf len long short L) (w0 := (w1.alloc (.cells #[.slice none 0 0] 32)).alloc (.cells #[.int .i64 len, .slice a m cap, .int .i64 long, .int .i64 short] 34))
      (fun l J Jx M W hW hJ hJx hMM hres hY h0 => pieces1_in hF hro hd (by omega) l (w1.heap.size + 1) m cap a len long short L hL hm l1 l2 l3 l4 hbd J Jx M W hJ hJx hMM (hres _ (.inl rfl)) (fun h0 b off e => hres b (.inr ⟨h0, off, e⟩)) hY (cell_grown hW q0) (cell_grown hW q1) (cell_grown hW q2) (cell_grown hW q3) ((hS.grown (hB1.trans (hB3.mono (by omega)))).grown hW) h0)
      (Below.refl _ _) (fun _ => rfl) I
      (fun c _ X => c = .ret ∧ 40 < (takesOf len long short L).length ∧ Boxed X (w.heap.size + 1) 32 (.slice none 0 0) ∧ Boxed X (w.heap.size + 2) 30 (.int .i64 3) ∧ Below w.heap.size w X) (by rw [zW]; exact hI) ?hIx (Mine w1.heap.size) (by rw [zW]; exact hM) ?hres
      ⟨⟨_, bl.alloc _, World.ownsRow_nil _ _ _ _⟩, by simp, (y2.alloc _).alloc _, (y3.alloc _).alloc _, hB1.trans (hB3.mono (by omega))⟩
      (fun x a' X => ∃ Bx, ¬ Mine w1.heap.size X Bx ∧ (∃ pre, I pre X) ∧ X.cell? ⟨Bx, 0, none⟩ = some (.int .i64 x.1) ∧ X.cell? ⟨Bx, 1, none⟩ = some (.int .i64 x.2) ∧
        a' = { tmps := #[.agg #[.int .i64 len, .slice a m cap, .int .i64 long, .int .i64 short], .pointer (some ⟨w.heap.size, 0, none⟩), .pointer (some ⟨w.heap.size + 1, 0, none⟩), .pointer (some ⟨w.heap.size + 2, 0, none⟩), .pointer (some ⟨w1.heap.size, 0, none⟩), .pointer (some ⟨Bx, 0, none⟩), .agg #[.int .i64 len, .slice a m cap, .int .i64 long, .int .i64 short], .bool true, .bool false, .agg #[.int .i64 len, .slice a m cap, .int .i64 long, .int .i64 short], .func (.func 86) #[] #[.pointer (some ⟨w1.heap.size + 1, 0, none⟩)], .agg #[.int .i64 x.1, .int .i64 x.2], undef, undef, undef, undef, undef, undef, undef, undef], defers := [] })
      ?hAx ?assign ?body ?done ?stop
    case hIx =>
      rintro c s A B row ⟨hc', hl, r2, r3, hb⟩ hg hr
      have hr' : ∀ r, row = some r → ∃ o : Obj, A.heap[r]? = some o ∧ o.isCells = false := fun r e => (hr r e).2
      exact ⟨hc', hl, book_boxed r2 hg hr', book_boxed r3 hg hr', hb.grown hg hb.size (fun r e => by have := (hr r e).1; rw [zW] at this; omega)⟩
    case hres =>
      rintro k (rfl | ⟨hm0, off, e⟩) hmine
      · rcases (mine_iff (bl.alloc _) _).1 hmine with e | e
        · omega
        · simp [Value.ownBlock] at e
      · obtain ⟨b', off', e', e1, _⟩ := hS 0 (by omega)
        rw [e] at e'
        cases e'
        have := lt_of_cell e1
        rcases (mine_iff (bl.alloc _) _).1 hmine with e | e
        · omega
        · simp [Value.ownBlock] at e
    case hAx =>
      rintro x a' s A B row ⟨Bx, hm', ⟨pre, hi'⟩, p1, p2, e⟩ hg hr
      rw [zW] at hr
      exact ⟨Bx, fun h => hm' (hM.grown _ _ _ _ _ hi' hg hr h), ⟨pre, hI _ _ _ row hi' hg hr⟩, cell_kept p1 hg (fun r e => (hr r e).2), cell_kept p2 hg (fun r e => (hr r e).2), e⟩
    case assign =>
      intro l2 pre x X K hi' hX hK
      dsimp only [encSp]
      gi_wp2
      exact hK _ (X.alloc (.cells #[.int .i64 x.1, .int .i64 x.2] 82)) ((KeepsOthers.alloc _ _).from _) (hM.alloc hi' _) (OwnFrom.alloc hI _ hi') ⟨X.heap.size, hM.fresh hi' _, ⟨pre, OwnFrom.alloc hI _ hi'⟩, by rw [World.cell?_alloc_new]; rfl, by rw [World.cell?_alloc_new]; rfl, rfl⟩
    case body =>
      rintro l2 pre ⟨x1, x2⟩ rest a' X hxs hX hi' ⟨Bx, hmB, _, p1, p2, rfl⟩
      obtain ⟨⟨v, hv, hrow⟩, hle, r2, r3, hb⟩ := hi'
      simp only at p1 p2
      have HXS := hid hxs
      clear hxs
      obtain ⟨va, vc, rfl⟩ := owns_shape hrow
      have hvc := hv.cell
      have hvf := hv.frozen
      have g2 := r2.cell
      have f2 := r2.frozen
      have g3 := r3.cell
      have f3 := r3.frozen
      have hbx := lt_of_cell p1
      by_cases h40 : pre.length = 40
      · have e40 : ((pre.length : Int) == 40) = true := by rw [h40]; rfl
        have hlen : 40 < (takesOf len long short L).length := by rw [HXS.out]; simp; omega
        have HL := hid hlen
        have HH := hid h40
        clear hlen h40
        gi_wp2
        exact ⟨((KeepsOthers.setCell _ _ _).trans (KeepsOthers.setCell _ _ _)).from _, rfl, HL.out, (r2.set _).other (by omega) _, (r3.other (by omega) _).set _, (hb.setCell (p := ⟨w.heap.size + 1, 0, none⟩) (by simp) _).setCell (p := ⟨w.heap.size + 2, 0, none⟩) (by simp) _⟩
      · have e40 : ((pre.length : Int) == 40) = false := by simp; omega
        have HH := hid h40
        clear h40
        gi_wp2_with (gi_at_builtin; refine wpListIn_append_at _ rfl _ _ 32 rfl w.heap.size 82 i0 (.agg #[.int .i64 0, .int .i64 0]) 2 16 Try.underlying32 hi hz0 hz1 hz2 rfl (by decide) _ _ _ rfl (hrow.alloc _) ⟨X.heap.size, 0, none⟩ 1 1 [.int .i64 x1, .int .i64 x2] rfl rfl (cell_two_new _ _ _ _) (by simp [Value.oneCell']) (by decide) (by unfold maxLen; omega) (by omega) (by have := hb.size; simp; omega) ?_; intro v' wa hown' hgrow hat; obtain ⟨g', cap', rfl⟩ := ownsRow_succ hown'; obtain ⟨hv1, hv2, hr2, hk2, hb2⟩ := hv.appended (by decide) hrow hb.size (by omega) hown' hgrow; have hc1 := hv1.cell; have hf1 := hv1.frozen)
        exact ⟨hk2.from _, mine_appended hv (by decide) hrow hb.size (by omega) hown' hgrow hat, ⟨_, hv2, by simpa [flat2_append, flat2] using hr2⟩, by have := HH.out; simp; omega,
          ((r2.alloc _).kept hgrow (Boxed.not_row r2 (by decide) hrow)).other (by omega) _, ((r3.alloc _).kept hgrow (Boxed.not_row r3 (by decide) hrow)).other (by omega) _, hb.trans hb2⟩
    case done =>
      rintro D X hD ⟨⟨v, hv, hrow⟩, hle, r2, r3, hb⟩ hK
      have hvc := hv.cell
      have g2 := r2.cell
      have f2 := r2.frozen
      have g3 := r3.cell
      have f3 := r3.frozen
      obtain ⟨va, vc, rfl⟩ := owns_shape hrow
      rw [zW] at hD
      gi_wp2
      have hkk := ((KeepsOthers.setCell X ⟨w.heap.size + 1, 0, none⟩ (.slice va (takesOf len long short L).length vc)).trans (KeepsOthers.setCell _ ⟨w.heap.size + 2, 0, none⟩ (.int .i64 0))).same D _ hK rfl
      refine ⟨by simp, .inl ⟨_, _, rfl, run_takeDeferred hkk, ?_⟩⟩
      have b2 := ((r2.set (.slice va (takesOf len long short L).length vc)).other (B' := w.heap.size + 2) (by omega) (.int .i64 0))
      have b3 := ((r3.other (B' := w.heap.size + 1) (by omega) (.slice va (takesOf len long short L).length vc)).set (.int .i64 0))
      have t2 := (book_boxed b2 (grownBy_putObj' _ D (.deferred none)) (fun r e => by cases e; exact ⟨_, hkk, rfl⟩)).cell
      have t3 := (book_boxed b3 (grownBy_putObj' _ D (.deferred none)) (fun r e => by cases e; exact ⟨_, hkk, rfl⟩)).cell
      have o1 := hrow.kept (grownBy_setCell' X (w.heap.size + 1) (.slice va (takesOf len long short L).length vc)) (.inr (Boxed.not_row r2 (by decide) hrow).symm)
      have o2 := o1.kept (grownBy_setCell' _ (w.heap.size + 2) (.int .i64 0)) (.inr (Boxed.not_row (r3.other (B' := w.heap.size + 1) (by omega) _) (by decide) o1).symm)
      have o3 := ownsRow_putObj o2 (.deferred none) hkk rfl
      have hbb : Below w.heap.size w _ := ((hb.setCell (p := ⟨w.heap.size + 1, 0, none⟩) (by simp) (.slice va (takesOf len long short L).length vc)).setCell (p := ⟨w.heap.size + 2, 0, none⟩) (by simp) (.int .i64 0)).grown (grownBy_putObj' _ D (.deferred none)) ((hb.setCell (p := ⟨w.heap.size + 1, 0, none⟩) (by simp) _).setCell (p := ⟨w.heap.size + 2, 0, none⟩) (by simp) _).size (fun r e => by cases e; omega)
      exact ⟨.tuple #[.slice va (takesOf len long short L).length vc, .int .i64 0], by simp [results, Try.f51, go_sem, t2, t3], hbb, by rw [if_neg (by rw [HOK.out]; simp), if_neg (by omega)]; exact ⟨va, vc, rfl, spans_of_owns o3, fun b off eb => by have := (o3.lt b (by rw [eb]; rfl)).1; omega⟩⟩
    case stop =>
      rintro D c pre X hD hpre ⟨rfl, hl, r2, r3, hb⟩ hK
      rw [zW] at hD
      gi_wp2
      refine ⟨by simp, .inl ⟨_, _, rfl, run_takeDeferred hK, ?_⟩⟩
      have t2 := (book_boxed r2 (grownBy_putObj' _ D (.deferred none)) (fun r e => by cases e; exact ⟨_, hK, rfl⟩)).cell
      have t3 := (book_boxed r3 (grownBy_putObj' _ D (.deferred none)) (fun r e => by cases e; exact ⟨_, hK, rfl⟩)).cell
      exact ⟨.tuple #[.slice none 0 0, .int .i64 3], by simp [results, Try.f51, go_sem, t2, t3], hb.grown (grownBy_putObj' _ D (.deferred none)) hb.size (fun r e => by cases e; omega), by rw [if_neg (by rw [HOK.out]; simp), if_pos hl]⟩
  · have hno : sitOk len long short L = false := by simpa using hok
    clear hok
    refine callsIn_of_wp Try.func51 rfl (hF _) ?_ hro
    simp only [Try.ntmps51, List.size_toArray, List.length_cons, List.length_nil, Nat.reduceAdd, Nat.reduceSub, Array.replicate_succ, Array.replicate_zero, List.push_toArray, List.append_toArray, List.nil_append, List.cons_append]
    gi_wp2_with fail
    obtain ⟨W0, hW0⟩ : ∃ W0, W0 = ((w.alloc (.cells #[.int .i64 len, .slice a m cap, .int .i64 long, .int .i64 short] 34)).alloc (.cells #[.slice none 0 0] 32)).alloc (.cells #[.int .i64 0] 30) := ⟨_, rfl⟩
    have hB0 : Below w.heap.size w W0 := by rw [hW0]; exact (((Below.refl _ w).alloc (Nat.le_refl _) _).alloc (by simp) _).alloc (by simp; omega) _
    have z0 : W0.heap.size = w.heap.size + 3 := by rw [hW0]; simp
    have x2 : Boxed W0 (w.heap.size + 1) 32 (.slice none 0 0) := by rw [hW0]; have := Boxed.new (w.alloc (.cells #[.int .i64 len, .slice a m cap, .int .i64 long, .int .i64 short] 34)) 32 (.slice none 0 0); rw [World.size_alloc] at this; exact this.alloc _
    have x3 : Boxed W0 (w.heap.size + 2) 30 (.int .i64 0) := by rw [hW0]; have := Boxed.new ((w.alloc (.cells #[.int .i64 len, .slice a m cap, .int .i64 long, .int .i64 short] 34)).alloc (.cells #[.slice none 0 0] 32)) 30 (.int .i64 0); rw [World.size_alloc, World.size_alloc] at this; exact this
    rw [← hW0]
    clear hW0
    refine (hc (validSitting_any L len long short m cap a _ hL hm (hS.grown hB0))).mono ?_
    rintro e w1 ⟨rfl, hb⟩
    have hB1 : Below w.heap.size w w1 := hB0.trans (hb.mono hB0.size)
    have y2 : Boxed w1 (w.heap.size + 1) 32 (.slice none 0 0) := (hb.block _ (by omega)).trans x2
    have y3 : Boxed w1 (w.heap.size + 2) 30 (.int .i64 0) := (hb.block _ (by omega)).trans x3
    have g2 := y2.cell
    have f2 := y2.frozen
    have g3 := y3.cell
    have f3 := y3.frozen
    clear x2 x3 z0 hb hB0
    clear W0
    have HNO := hid hno
    gi_wp2
    have b2 := ((y2.set (.slice none 0 0)).other (B' := w.heap.size + 2) (by omega) (.int .i64 1)).cell
    have b3 := ((y3.other (B' := w.heap.size + 1) (by omega) (.slice none 0 0)).set (.int .i64 1)).cell
    exact bodyPost_ret (v := .tuple #[.slice none 0 0, .int .i64 1]) (by simp [results, Try.f51, go_sem, b2, b3]) rfl ⟨(hB1.setCell (p := ⟨w.heap.size + 1, 0, none⟩) (by simp) _).setCell (p := ⟨w.heap.size + 2, 0, none⟩) (by simp) _, by rw [if_pos HNO.out]⟩

end Go.Proofs.Ytgapbaelifcifaa
