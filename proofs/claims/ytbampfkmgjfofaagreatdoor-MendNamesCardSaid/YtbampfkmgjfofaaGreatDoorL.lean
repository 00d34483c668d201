/- Contract of read: the reading by a lexicon, or its error. Mend: lists that a call makes by appending, and how they read afterwards. -/
import Derived.Test.YtbampfkmgjfofaaGreatDoorI
import Derived.WalkSmall
import Derived.OwnWalk
import Derived.Maps.AppendAt
import Derived.Laws.AppendOwn
import Derived.Deep.Onto
namespace Go.Proofs.YtbampfkmgjfofaaGreatDoor
open Go.RowKit Go.Shelf

attribute [local go_sem] Oper.semAt_some

/-- Does no text stand there twice? -/
def noTwice (E : List Ent) : Bool := decide (E.map (·.1)).Nodup

/-- The error of a lexicon. -/
def lexErr (l : Lex) : Int := if lexOk l = false then 1 else if noTwice (entries l) then 0 else 6

/-- The error of swaps. -/
def swapsErr (S : List (Int × Int × Int)) : Int := if 20 < S.length then 3 else if S.all swapOk then 0 else 1

/-- The error of a lexicon with swaps. -/
def readErr (l : Lex) (S : List (Int × Int × Int)) : Int := if lexErr l = 0 then swapsErr S else lexErr l

theorem noTwice_snoc {E : List Ent} {x : Ent} (h : noTwice E = true) (hn : ∀ y ∈ E, y.1 ≠ x.1) : noTwice (E ++ [x]) = true := by
  unfold noTwice at *
  rw [decide_eq_true_eq] at *
  rw [List.map_append, List.nodup_append]
  refine ⟨h, by simp, ?_⟩
  intro a ha b hb
  obtain ⟨y, hy, rfl⟩ := List.mem_map.1 ha
  simp at hb
  subst hb
  exact hn y hy

theorem noTwice_not {E pre rest : List Ent} {x y : Ent} (hE : E = pre ++ x :: rest) (hy : y ∈ pre) (hx : y.1 = x.1) : noTwice E = false := by
  unfold noTwice
  rw [decide_eq_false_iff_not]
  intro h
  rw [hE, List.map_append, List.nodup_append] at h
  exact h.2.2 _ (List.mem_map.2 ⟨y, hy, rfl⟩) _ (by simp) hx

theorem textOk_size {t : Tx} (h : textOk t = true) : t.size ≤ 32 := by
  unfold textOk at h
  simp only [Bool.and_eq_true, inB, decide_eq_true_eq] at h
  omega

theorem entsM_mem : ∀ (L : List (List Tx)) (k : Nat) (x : Ent), x ∈ entsM k L → ∃ N ∈ L, x.1 ∈ N := by
  intro L
  induction L with
  | nil => intro k x h; cases h
  | cons N r ih =>
    intro k x h
    simp only [entsM, List.mem_append] at h
    rcases h with h | h
    · simp only [entsI, List.mem_map] at h
      obtain ⟨t, ht, rfl⟩ := h
      exact ⟨N, by simp, ht⟩
    · obtain ⟨N', h1, h2⟩ := ih _ _ h
      exact ⟨N', by simp [h1], h2⟩

theorem entries_ok {l : Lex} (h : lexOk l = true) : ∀ x ∈ entries l, textOk x.1 = true := by
  simp only [lexOk, Bool.and_eq_true, List.all_eq_true] at h
  obtain ⟨-, h1, h2, h3⟩ := h
  intro x hx
  simp only [entries, List.mem_append] at hx
  rcases hx with hx | hx | hx
  · simp only [entsN, List.mem_map] at hx
    obtain ⟨n, hn, rfl⟩ := hx
    have := h1 n hn
    simp only [numOk, Bool.and_eq_true] at this
    exact this.1
  · obtain ⟨N, hN, ht⟩ := entsM_mem _ _ _ hx
    have := h2 N hN
    simp only [nameOk, Bool.and_eq_true, List.all_eq_true] at this
    exact this.2 _ ht
  · simp only [entsT, List.mem_map] at hx
    obtain ⟨t, ht, rfl⟩ := hx
    exact h3 t ht

theorem boxed_other {W : World} {B B' : Nat} {t : TypeId} {v : Value} (h : Boxed W B t v) (hne : B ≠ B') (o : Nat) (u : Value) : Boxed (W.setCell ⟨B', o, none⟩ u) B t v := (RowKit.Below.heap_setCell _ _ _ _ hne).trans h

/-- The three cells of what read returns. -/
def set3 (X : World) (rv ev : Nat) (v1 v2 v3 : Value) : World := ((X.setCell ⟨rv, 0, none⟩ v1).setCell ⟨rv, 1, none⟩ v2).setCell ⟨ev, 0, none⟩ v3

theorem set3_box2 {X : World} {rv ev : Nat} {t : TypeId} {u1 u2 : Value} (h : Box2 X rv t u1 u2) (hne : rv ≠ ev) (v1 v2 v3 : Value) : Box2 (set3 X rv ev v1 v2 v3) rv t v1 v2 := ((h.set0 v1).set1 v2).other hne 0 v3
theorem set3_boxed {X : World} {rv ev : Nat} {t : TypeId} {u : Value} (h : Boxed X ev t u) (hne : ev ≠ rv) (v1 v2 v3 : Value) : Boxed (set3 X rv ev v1 v2 v3) ev t v3 := (boxed_other (boxed_other h hne 0 v1) hne 1 v2).set v3
theorem set3_block {X : World} {rv ev k : Nat} (h1 : k ≠ rv) (h2 : k ≠ ev) (v1 v2 v3 : Value) : (set3 X rv ev v1 v2 v3).heap[k]? = X.heap[k]? :=
  (RowKit.Below.heap_setCell _ _ _ _ h2).trans ((RowKit.Below.heap_setCell _ _ _ _ h1).trans (RowKit.Below.heap_setCell _ _ _ _ h1))
theorem set3_keeps {X : World} {rv ev : Nat} (v1 v2 v3 : Value) : KeepsOthers X (set3 X rv ev v1 v2 v3) := ((KeepsOthers.setCell _ _ _).trans (KeepsOthers.setCell _ _ _)).trans (KeepsOthers.setCell _ _ _)
theorem set3_below {w X : World} {rv ev : Nat} (h : Below w.heap.size w X) (h1 : w.heap.size ≤ rv) (h2 : w.heap.size ≤ ev) (v1 v2 v3 : Value) : Below w.heap.size w (set3 X rv ev v1 v2 v3) :=
  ((h.setCell (p := ⟨rv, 0, none⟩) h1 v1).setCell (p := ⟨rv, 1, none⟩) h1 v2).setCell (p := ⟨ev, 0, none⟩) h2 v3

theorem keep_one {b : Nat} {W W' : World} (h : W.grownBy W' (some b)) : Keep (fun _ k => k = b) W W' :=
  ⟨h.size, fun k hk hm => h.block k hk (fun e => hm (by cases e; rfl)), fun _ _ hm => hm⟩

variable {F : Fence} {n : Nat}

set_option maxHeartbeats 400000 in
theorem words_in (hF : ∀ f, F.fn f) (hro : F.round = none) (a1 a2 a3 : Option Addr) (n1 n2 n3 c1 c2 c3 : Nat) (w : World) :
    CallsIn F n Tryz.prog 65 #[.agg #[.slice a1 n1 c1, .slice a2 n2 c2, .slice a3 n3 c3]] w fun e w' =>
      e = .returned (.func (.func 97) #[] #[.pointer (some ⟨w.heap.size, 0, none⟩)]) ∧ w.alloc (.cells #[.slice a1 n1 c1, .slice a2 n2 c2, .slice a3 n3 c3] 34) = w' := by
  refine callsIn_of_wp Tryz.func65 rfl (hF _) ?_ hro
  simp only [Tryz.ntmps65, List.size_toArray, List.length_cons, List.length_nil, Nat.reduceAdd, Nat.reduceSub, Array.replicate_succ, Array.replicate_zero, List.push_toArray, List.append_toArray, List.nil_append, List.cons_append]
  gi_wp2
  go_ret
  exact ⟨rfl, rfl⟩

/-- What read returns, with its memory. -/
def ReadPost (l : Lex) (S : List (Int × Int × Int)) (sa : Option Addr) (sn sc : Nat) (w : World) (e : Ending) (w' : World) : Prop :=
  Below w.heap.size w w' ∧ if readErr l S = 0 then ∃ b, w.heap.size ≤ b ∧ e = .returned (.tuple #[.agg #[.map (some b), .slice sa sn sc], .int .i64 0]) ∧ MapIs w' b (entries l)
    else e = .returned (.tuple #[.agg #[.map none, .slice none 0 0], .int .i64 (readErr l S)])

set_option maxRecDepth 100000 in
set_option maxHeartbeats 2000000 in
theorem read_any (l : Lex) (a1 a2 a3 : Option Addr) (n1 n2 n3 c1 c2 c3 : Nat) (S : List (Int × Int × Int)) (sa : Option Addr) (sn sc : Nat) (w : World) (h1 : l.nums.length = n1) (h2 : l.names.length = n2) (h3 : l.nots.length = n3) (hL : LexAt w a1 a2 a3 l)
    (hs : S.length = sn) (hsn : sn ≤ maxLen) (hS : SwapsAt w sa S) :
    Calls Tryz.prog 51 #[.agg #[.slice a1 n1 c1, .slice a2 n2 c2, .slice a3 n3 c3], .slice sa sn sc] w (ReadPost l S sa sn sc w) := by
  obtain ⟨F, hFw⟩ : ∃ F, F = Fence.wide := ⟨_, rfl⟩
  have hF : ∀ f, F.fn f := fun f => by rw [hFw]; exact trivial
  have hro : F.round = none := by rw [hFw]; rfl
  have hd : F.depth = none := by rw [hFw]; rfl
  have hc : ∀ {n : Nat} {f args w R}, Calls Tryz.prog f args w R → CallsIn F n Tryz.prog f args w R := fun h => by rw [hFw]; exact callsIn_wide.2 h
  suffices h : CallsIn F 9 Tryz.prog 51 #[.agg #[.slice a1 n1 c1, .slice a2 n2 c2, .slice a3 n3 c3], .slice sa sn sc] w (ReadPost l S sa sn sc w) by
    rw [hFw] at h; exact callsIn_wide.1 h
  clear hFw
  obtain ⟨n, hn⟩ : ∃ n, n = 9 := ⟨_, rfl⟩
  rw [← hn]
  have hn3 : 6 ≤ n := by omega
  have h1n : 1 ≤ n := by omega
  clear hn
  have H1 := hid h1; have H2 := hid h2; have H3 := hid h3; have HS := hid hs
  clear h1 h2 h3 hs
  refine callsIn_of_wp_marks Tryz.func51 rfl (hF _) ?_ hro
  simp only [Tryz.ntmps51, List.size_toArray, List.length_cons, List.length_nil, Nat.reduceAdd, Nat.reduceSub, Array.replicate_succ, Array.replicate_zero, List.push_toArray, List.append_toArray, List.nil_append, List.cons_append]
  have hmm := @run_makeMap Tryz.prog
  gi_wp2_with fail
  obtain ⟨W0, hW0⟩ : ∃ W0, W0 = ((w.alloc (.cells #[.slice a1 n1 c1, .slice a2 n2 c2, .slice a3 n3 c3] 34)).alloc (.cells #[.map none, .slice none 0 0] 116)).alloc (.cells #[.int .i64 0] 30) := ⟨_, rfl⟩
  have hB0 : Below w.heap.size w W0 := by rw [hW0]; exact (((Below.refl _ w).alloc (Nat.le_refl _) _).alloc (by simp) _).alloc (by simp; omega) _
  have z0 : W0.heap.size = w.heap.size + 3 := by rw [hW0]; simp
  have k0 : W0.cell? ⟨w.heap.size, 0, none⟩ = some (.slice a1 n1 c1) := by rw [hW0]; simp [go_sem]
  have k1 : W0.cell? ⟨w.heap.size, 1, none⟩ = some (.slice a2 n2 c2) := by rw [hW0]; simp [go_sem]
  have k2 : W0.cell? ⟨w.heap.size, 2, none⟩ = some (.slice a3 n3 c3) := by rw [hW0]; simp [go_sem]
  have x2 : Box2 W0 (w.heap.size + 1) 116 (.map none) (.slice none 0 0) := by rw [hW0]; have := Box2.new (w.alloc (.cells #[.slice a1 n1 c1, .slice a2 n2 c2, .slice a3 n3 c3] 34)) 116 (.map none) (.slice none 0 0); rw [World.size_alloc] at this; exact this.alloc _
  have x3 : Boxed W0 (w.heap.size + 2) 30 (.int .i64 0) := by rw [hW0]; have := Boxed.new ((w.alloc (.cells #[.slice a1 n1 c1, .slice a2 n2 c2, .slice a3 n3 c3] 34)).alloc (.cells #[.map none, .slice none 0 0] 116)) 30 (.int .i64 0); rw [World.size_alloc, World.size_alloc] at this; exact this
  rw [← hW0]
  clear hW0
  refine (hc (validLexicon_any l a1 a2 a3 n1 n2 n3 c1 c2 c3 W0 H1.out H2.out H3.out (hL.grown hB0))).mono ?_
  rintro e w1 ⟨rfl, hb⟩
  have hB1 : Below w.heap.size w w1 := hB0.trans (hb.mono hB0.size)
  have z1 : w.heap.size + 3 ≤ w1.heap.size := by have := hb.size; omega
  replace k0 := cell_grown hb k0
  replace k1 := cell_grown hb k1
  replace k2 := cell_grown hb k2
  have y2 : Box2 w1 (w.heap.size + 1) 116 (.map none) (.slice none 0 0) := (hb.block _ (by omega)).trans x2
  have y3 : Boxed w1 (w.heap.size + 2) 30 (.int .i64 0) := (hb.block _ (by omega)).trans x3
  clear x2 x3 z0 hb hB0
  clear W0
  have zl : w.heap.size < w1.heap.size := by omega
  cases hok : lexOk l
  · have hr : readErr l S = 1 := by simp [readErr, lexErr, hok]
    have HR := hid hr
    clear hr hok
    have g20 := y2.c0
    have g21 := y2.c1
    have f20 := y2.f0 0
    have f21 := y2.f0 1
    have g3 := y3.cell
    have f3 := y3.frozen
    gi_wp2
    have b2 := ((y2.set0 (.map none)).set1 (.slice none 0 0)).other (B' := w.heap.size + 2) (by omega) 0 (.int .i64 1)
    have b20 := b2.c0
    have b21 := b2.c1
    have b3 := (set3_boxed y3 (by omega : w.heap.size + 2 ≠ w.heap.size + 1) (.map none) (.slice none 0 0) (.int .i64 1)).cell
    unfold set3 at b3
    exact ⟨.tuple #[.agg #[.map none, .slice none 0 0], .int .i64 1], by simp [results, Tryz.f51, go_sem, b20, b21, b3], set3_below hB1 (by omega : w.heap.size ≤ w.heap.size + 1) (by omega : w.heap.size ≤ w.heap.size + 2) (.map none) (.slice none 0 0) (.int .i64 1), by rw [HR.out]; rfl⟩
  · have HOK := hid hok
    clear hok
    gi_wp2_with (gi_at_call 65; refine (words_in (F := F) (n := n - 1) hF hro a1 a2 a3 n1 n2 n3 c1 c2 c3 _).mono ?_; rintro e w' ⟨rfl, rfl⟩)
    have bm : ((w1.alloc (.map #[] 0)).alloc (.cells #[.map (some w1.heap.size)] 114)).heap[w1.heap.size]? = some (.map #[] 0) := (Below.heap_alloc _ _ _ (by simp)).trans (World.alloc_heap_new w1 _)
    obtain ⟨W2, hW2⟩ : ∃ W2, W2 = ((w1.alloc (.map #[] 0)).alloc (.cells #[.map (some w1.heap.size)] 114)).alloc (.cells #[.slice a1 n1 c1, .slice a2 n2 c2, .slice a3 n3 c3] 34) := ⟨_, rfl⟩
    have z2 : W2.heap.size = w1.heap.size + 3 := by rw [hW2]; simp
    have hB2 : Below w1.heap.size w1 W2 := by rw [hW2]; exact (((Below.refl _ w1).alloc (Nat.le_refl _) _).alloc (by simp) _).alloc (by simp; omega) _
    have q0 : W2.cell? ⟨w1.heap.size + 2, 0, none⟩ = some (.slice a1 n1 c1) := by rw [hW2]; simp [go_sem]
    have q1 : W2.cell? ⟨w1.heap.size + 2, 1, none⟩ = some (.slice a2 n2 c2) := by rw [hW2]; simp [go_sem]
    have q2 : W2.cell? ⟨w1.heap.size + 2, 2, none⟩ = some (.slice a3 n3 c3) := by rw [hW2]; simp [go_sem]
    have m0 : MapIs W2 w1.heap.size [] := by rw [hW2]; exact MapIs.empty ((Below.heap_alloc _ _ _ (by simp; omega)).trans bm)
    have m1 : Boxed W2 (w1.heap.size + 1) 114 (.map (some w1.heap.size)) := by rw [hW2]; have := Boxed.new (w1.alloc (.map #[] 0)) 114 (.map (some w1.heap.size)); rw [World.size_alloc] at this; exact this.alloc _
    have u2 : Box2 W2 (w.heap.size + 1) 116 (.map none) (.slice none 0 0) := (hB2.block _ (by omega)).trans y2
    have u3 : Boxed W2 (w.heap.size + 2) 30 (.int .i64 0) := (hB2.block _ (by omega)).trans y3
    have hBW : Below w.heap.size w W2 := hB1.trans (hB2.mono (by omega))
    have hLW : LexAt w a1 a2 a3 l := hL
    try rw [← hW2]
    clear hW2 bm
    let I : List Ent → World → Prop := fun pre X => MapIs X w1.heap.size pre ∧ Boxed X (w1.heap.size + 1) 114 (.map (some w1.heap.size)) ∧ Box2 X (w.heap.size + 1) 116 (.map none) (.slice none 0 0) ∧ Boxed X (w.heap.size + 2) 30 (.int .i64 0) ∧ Below w.heap.size w X ∧ noTwice pre = true
    have hI : OwnFrom W2.heap.size I := fun s A B row hs hg hr => by
      obtain ⟨hm, r1, r2, r3, hb, hno⟩ := hs
      have hr' : ∀ r, row = some r → ∃ o : Obj, A.heap[r]? = some o ∧ o.isCells = false := fun r e => (hr r e).2
      exact ⟨hm.kept (hg.block _ hm.lt (fun e => by have := (hr _ e.symm).1; omega)), book_boxed r1 hg hr', r2.book hg hr', book_boxed r3 hg hr', hb.grown hg hb.size (fun r e => by have := (hr r e).1; omega), hno⟩
    have hM : MineOk W2.heap.size I (fun _ k => k = w1.heap.size) := ⟨fun s W k hs e => by rw [e]; exact hs.1.lt, fun s W W' row k hs hg hr h => h⟩
    refine rangeO hro h1n (gf := 97) (lb := #[.pointer (some ⟨w1.heap.size + 2, 0, none⟩)]) rfl (hF _) (enters_of Tryz.func97 (by kernel_rfl) rfl)
      (encs := encE) (Res := fun k => k < w.heap.size ∨ k = w1.heap.size + 2) (xs := entries l) (w0 := W2)
      (fun lx J Jx M W hW hJ hJx hMM hres hY h0 => words1_in hF hro (by omega) lx (w1.heap.size + 2) n1 n2 n3 c1 c2 c3 a1 a2 a3 l H1.out H2.out H3.out w hLW J Jx M W (hBW.trans (hW.mono (by omega))) hJ hMM (hres _ (.inr rfl)) (fun k hk => hres k (.inl hk)) hY (cell_grown hW q0) (cell_grown hW q1) (cell_grown hW q2) h0)
      (Below.refl _ _) (fun _ => rfl) I
      (fun c _ X => c = .ret ∧ noTwice (entries l) = false ∧ Box2 X (w.heap.size + 1) 116 (.map none) (.slice none 0 0) ∧ Boxed X (w.heap.size + 2) 30 (.int .i64 6) ∧ Below w.heap.size w X) hI ?hIx (fun _ k => k = w1.heap.size) hM ?hres
      ⟨m0, m1, u2, u3, hBW, rfl⟩
      (fun x a' X => ∃ Bx, Box2 X Bx 95 (.int .u8 x.2.1) (.int .i64 x.2.2) ∧
        a' = { tmps := #[.agg #[.slice a1 n1 c1, .slice a2 n2 c2, .slice a3 n3 c3], .slice sa sn sc, .pointer (some ⟨w.heap.size, 0, none⟩), undef, .pointer (some ⟨w.heap.size + 1, 0, none⟩), .pointer (some ⟨w.heap.size + 2, 0, none⟩), .pointer (some ⟨w1.heap.size + 1, 0, none⟩), .string x.1, .pointer (some ⟨Bx, 0, none⟩), undef, undef, .agg #[.slice a1 n1 c1, .slice a2 n2 c2, .slice a3 n3 c3], .bool true, .bool false, undef, .map (some w1.heap.size), .agg #[.slice a1 n1 c1, .slice a2 n2 c2, .slice a3 n3 c3], .func (.func 97) #[] #[.pointer (some ⟨w1.heap.size + 2, 0, none⟩)], .string x.1, .agg #[.int .u8 x.2.1, .int .i64 x.2.2], undef, undef, undef, undef, undef, undef, undef, undef, undef, undef, undef, undef, undef, undef, undef, undef, undef, undef, undef, undef, undef, undef], defers := [] })
      ?hAx ?assign ?body ?done ?stop
    case hIx =>
      rintro c s A B row ⟨hc', hl, r2, r3, hb⟩ hg hr
      have hr' : ∀ r, row = some r → ∃ o : Obj, A.heap[r]? = some o ∧ o.isCells = false := fun r e => (hr r e).2
      exact ⟨hc', hl, r2.book hg hr', book_boxed r3 hg hr', hb.grown hg hb.size (fun r e => by have := (hr r e).1; omega)⟩
    case hres =>
      rintro k (hk | rfl) hmine
      · omega
      · omega
    case hAx =>
      rintro x a' s A B row ⟨Bx, p, e⟩ hg hr
      exact ⟨Bx, p.book hg (fun r e => (hr r e).2), e⟩
    case assign =>
      intro l2 pre x X K hi' hX hK
      dsimp only [encE]
      gi_wp2
      exact hK _ (X.alloc (.cells #[.int .u8 x.2.1, .int .i64 x.2.2] 95)) ((KeepsOthers.alloc _ _).from _) (hM.alloc hi' _) (OwnFrom.alloc hI _ hi') ⟨X.heap.size, Box2.new _ _ _ _, rfl⟩
    case body =>
      rintro l2 pre ⟨s, m1, m2⟩ rest a' X hxs hX hi' ⟨Bx, p, rfl⟩
      obtain ⟨hm, r1, r2, r3, hb, hno⟩ := hi'
      simp only at p
      have hsz : s.size ≤ 32 := textOk_size (entries_ok HOK.out (s, m1, m2) (by rw [hxs]; simp))
      have HXS := hid hxs
      have HNO := hid hno
      clear hxs hno
      have g1 := r1.cell
      have p0 := p.c0
      have p1 := p.c1
      have hbx := p.lt
      have gm := r1.lt
      rcases map_look hm hsz with ⟨hn, hlk⟩ | ⟨y, hy, hys, hlk⟩
      · obtain ⟨X2, hst, hm2, hg2⟩ := map_store (hm.grown (below_alloc X (.cells #[.int .u8 0, .int .i64 0] 95))) hsz hn (m1, m2)
        unfold markV at hst
        have hg : X.grownBy X2 (some w1.heap.size) := (World.grownBy_alloc X _ (some w1.heap.size)).trans hg2
        gi_wp2
        exact ⟨KeepsFrom.of_grownBy hg (fun j e => by cases e; omega), keep_one hg, hm2, r1.kept hg (by simp), r2.kept hg (by simp; omega), r3.kept hg (by simp; omega), hb.grown hg hb.size (fun r e => by cases e; omega), noTwice_snoc HNO.out hn⟩
      · have g20 := r2.c0
        have g21 := r2.c1
        have f20 := r2.f0 0
        have f21 := r2.f0 1
        have g3 := r3.cell
        have f3 := r3.frozen
        have gl2 := r2.lt
        have gl3 := r3.lt
        have hnt : noTwice (entries l) = false := noTwice_not HXS.out hy hys
        have HNT := hid hnt
        clear hnt
        unfold markV at hlk
        gi_wp2
        exact ⟨((set3_keeps _ _ _).trans (KeepsOthers.alloc _ _)).from _, rfl, HNT.out, (set3_box2 r2 (by omega) _ _ _).alloc _, (set3_boxed r3 (by omega) _ _ _).alloc _, (set3_below hb (by omega) (by omega) _ _ _).alloc ((set3_below hb (by omega) (by omega) _ _ _).size) _⟩
    case done =>
      rintro D X hD ⟨hm, r1, r2, r3, hb, hno⟩ hK
      have hle : lexErr l = 0 := by simp [lexErr, HOK.out, hno]
      have HLE := hid hle
      clear hle hno
      have g1 := r1.cell
      have g20 := r2.c0
      have g21 := r2.c1
      have f20 := r2.f0 0
      have f21 := r2.f0 1
      have g3 := r3.cell
      have f3 := r3.frozen
      have hsn' := hsn
      unfold maxLen at hsn'
      by_cases h20 : 20 < sn
      · have i20 : (20 : Int) < sn := by omega
        have hr : readErr l S = 3 := by rw [readErr, if_pos HLE.out, swapsErr, if_pos (by rw [HS.out]; exact h20)]
        have HR := hid hr
        clear hr
        gi_wp2
        have hkk : (set3 X (w.heap.size + 1) (w.heap.size + 2) (.map none) (.slice none 0 0) (.int .i64 3)).heap[D]? = some (.deferred (some [])) := (set3_block (by omega) (by omega) _ _ _).trans hK
        refine ⟨by simp, .inl ⟨_, _, rfl, run_takeDeferred hkk, ?_⟩⟩
        have b2 := (set3_box2 r2 (by omega : w.heap.size + 1 ≠ w.heap.size + 2) (.map none) (.slice none 0 0) (.int .i64 3)).book (grownBy_putObj' _ D (.deferred none)) (fun r e => by cases e; exact ⟨_, hkk, rfl⟩)
        have b3 := book_boxed (set3_boxed r3 (by omega : w.heap.size + 2 ≠ w.heap.size + 1) (.map none) (.slice none 0 0) (.int .i64 3)) (grownBy_putObj' _ D (.deferred none)) (fun r e => by cases e; exact ⟨_, hkk, rfl⟩)
        have t20 := b2.c0
        have t21 := b2.c1
        have t3 := b3.cell
        have hbb := set3_below hb (by omega : w.heap.size ≤ w.heap.size + 1) (by omega : w.heap.size ≤ w.heap.size + 2) (.map none) (.slice none 0 0) (.int .i64 3)
        unfold set3 at t20 t21 t3
        exact ⟨.tuple #[.agg #[.map none, .slice none 0 0], .int .i64 3], by simp [results, Tryz.f51, go_sem, t20, t21, t3], hbb.grown (grownBy_putObj' _ D (.deferred none)) hbb.size (fun r e => by cases e; omega), by rw [HR.out]; rfl⟩
      · have i20 : ¬ (20 : Int) < sn := by omega
        have hr : readErr l S = if S.all swapOk then 0 else 1 := by rw [readErr, if_pos HLE.out, swapsErr, if_neg (by rw [HS.out]; exact h20)]
        have HR := hid hr
        clear hr
        gi_wp2_with fail
        refine (hc (allSwaps_any S sn sc sa X HS.out hsn (hS.grown hb))).mono ?_
        rintro e w3 ⟨rfl, hb3⟩
        have hm3 := hm.grown hb3
        have q1 : Boxed w3 (w1.heap.size + 1) 114 (.map (some w1.heap.size)) := (hb3.block _ r1.lt).trans r1
        have q2 : Box2 w3 (w.heap.size + 1) 116 (.map none) (.slice none 0 0) := (hb3.block _ r2.lt).trans r2
        have q3 : Boxed w3 (w.heap.size + 2) 30 (.int .i64 0) := (hb3.block _ r3.lt).trans r3
        have hK3 := (hb3.block D (Array.getElem?_eq_some_iff.1 hK).1).trans hK
        have hbw := below_then hb hb3
        clear g1 g20 g21 f20 f21 g3 f3 r1 r2 r3 hK hm hb
        have r1 := q1; have r2 := q2; have r3 := q3; have hK := hK3; have hb := hbw
        clear q1 q2 q3 hK3 hbw
        have g1 := r1.cell
        have g20 := r2.c0
        have g21 := r2.c1
        have f20 := r2.f0 0
        have f21 := r2.f0 1
        have g3 := r3.cell
        have f3 := r3.frozen
        cases hx : S.all swapOk
        · have HX : Hid (readErr l S = 1) := hid (by rw [HR.out, hx]; rfl)
          clear hx HR
          gi_wp2
          have hkk : (set3 w3 (w.heap.size + 1) (w.heap.size + 2) (.map none) (.slice none 0 0) (.int .i64 1)).heap[D]? = some (.deferred (some [])) := (set3_block (by omega) (by omega) _ _ _).trans hK
          refine ⟨by simp, .inl ⟨_, _, rfl, run_takeDeferred hkk, ?_⟩⟩
          have b2 := (set3_box2 r2 (by omega : w.heap.size + 1 ≠ w.heap.size + 2) (.map none) (.slice none 0 0) (.int .i64 1)).book (grownBy_putObj' _ D (.deferred none)) (fun r e => by cases e; exact ⟨_, hkk, rfl⟩)
          have b3 := book_boxed (set3_boxed r3 (by omega : w.heap.size + 2 ≠ w.heap.size + 1) (.map none) (.slice none 0 0) (.int .i64 1)) (grownBy_putObj' _ D (.deferred none)) (fun r e => by cases e; exact ⟨_, hkk, rfl⟩)
          have t20 := b2.c0
          have t21 := b2.c1
          have t3 := b3.cell
          have hbb := set3_below hb (by omega : w.heap.size ≤ w.heap.size + 1) (by omega : w.heap.size ≤ w.heap.size + 2) (.map none) (.slice none 0 0) (.int .i64 1)
          unfold set3 at t20 t21 t3
          exact ⟨.tuple #[.agg #[.map none, .slice none 0 0], .int .i64 1], by simp [results, Tryz.f51, go_sem, t20, t21, t3], hbb.grown (grownBy_putObj' _ D (.deferred none)) hbb.size (fun r e => by cases e; omega), by rw [HX.out]; rfl⟩
        · have HX : Hid (readErr l S = 0) := hid (by rw [HR.out, hx]; rfl)
          clear hx HR
          gi_wp2
          have hkk : (set3 w3 (w.heap.size + 1) (w.heap.size + 2) (.map (some w1.heap.size)) (.slice sa sn sc) (.int .i64 0)).heap[D]? = some (.deferred (some [])) := (set3_block (by omega) (by omega) _ _ _).trans hK
          refine ⟨by simp, .inl ⟨_, _, rfl, run_takeDeferred hkk, ?_⟩⟩
          have b2 := (set3_box2 r2 (by omega : w.heap.size + 1 ≠ w.heap.size + 2) (.map (some w1.heap.size)) (.slice sa sn sc) (.int .i64 0)).book (grownBy_putObj' _ D (.deferred none)) (fun r e => by cases e; exact ⟨_, hkk, rfl⟩)
          have b3 := book_boxed (set3_boxed r3 (by omega : w.heap.size + 2 ≠ w.heap.size + 1) (.map (some w1.heap.size)) (.slice sa sn sc) (.int .i64 0)) (grownBy_putObj' _ D (.deferred none)) (fun r e => by cases e; exact ⟨_, hkk, rfl⟩)
          have t20 := b2.c0
          have t21 := b2.c1
          have t3 := b3.cell
          have hbb := set3_below hb (by omega : w.heap.size ≤ w.heap.size + 1) (by omega : w.heap.size ≤ w.heap.size + 2) (.map (some w1.heap.size)) (.slice sa sn sc) (.int .i64 0)
          unfold set3 at t20 t21 t3
          exact ⟨.tuple #[.agg #[.map (some w1.heap.size), .slice sa sn sc], .int .i64 0], by simp [results, Tryz.f51, go_sem, t20, t21, t3], hbb.grown (grownBy_putObj' _ D (.deferred none)) hbb.size (fun r e => by cases e; omega), by rw [HX.out]; exact ⟨w1.heap.size, by omega, rfl, hm3.kept ((World.putObj_heap_other (by omega)).trans (set3_block (by omega) (by omega) _ _ _))⟩⟩
    case stop =>
      rintro D c pre X hD hpre ⟨rfl, hnt, r2, r3, hb⟩ hK
      have hr : readErr l S = 6 := by simp [readErr, lexErr, HOK.out, hnt]
      have HR := hid hr
      clear hr hnt
      gi_wp2
      refine ⟨by simp, .inl ⟨_, _, rfl, run_takeDeferred hK, ?_⟩⟩
      have b2 := r2.book (grownBy_putObj' _ D (.deferred none)) (fun r e => by cases e; exact ⟨_, hK, rfl⟩)
      have t20 := b2.c0
      have t21 := b2.c1
      have t3 := (book_boxed r3 (grownBy_putObj' _ D (.deferred none)) (fun r e => by cases e; exact ⟨_, hK, rfl⟩)).cell
      exact ⟨.tuple #[.agg #[.map none, .slice none 0 0], .int .i64 6], by simp [results, Tryz.f51, go_sem, t20, t21, t3], hb.grown (grownBy_putObj' _ D (.deferred none)) hb.size (fun r e => by cases e; omega), by rw [HR.out]; rfl⟩

end Go.Proofs.YtbampfkmgjfofaaGreatDoor

namespace Go.Proofs.YtbampfkmgjfofaaGreatDoor
open Go.RowKit

variable {α : Type}

/-- The cells of a list's elements. -/
def flatV (f : α → List Value) (L : List α) : List Value := L.flatMap f

theorem flatV_nil (f : α → List Value) : flatV f [] = [] := rfl
theorem flatV_append (f : α → List Value) (L M : List α) : flatV f (L ++ M) = flatV f L ++ flatV f M := by unfold flatV; rw [List.flatMap_append]
theorem flatV_snoc (f : α → List Value) (L : List α) (x : α) : flatV f (L ++ [x]) = flatV f L ++ f x := by rw [flatV_append]; simp [flatV]

theorem flatV_length {f : α → List Value} {k : Nat} (hk : ∀ x, (f x).length = k) : ∀ L : List α, (flatV f L).length = L.length * k := by
  intro L
  induction L with
  | nil => simp [flatV]
  | cons x r ih =>
    have : flatV f (x :: r) = f x ++ flatV f r := rfl
    rw [this, List.length_append, ih, hk, List.length_cons, Nat.add_mul]
    omega

theorem flatV_get {f : α → List Value} {k : Nat} (hk : ∀ x, (f x).length = k) : ∀ (L : List α) (d : α) (i j : Nat), i < L.length → j < k → (flatV f L)[i * k + j]? = (f (L.getD i d))[j]? := by
  intro L
  induction L with
  | nil => intro d i j h; simp at h
  | cons x r ih =>
    intro d i j h hj
    have e : flatV f (x :: r) = f x ++ flatV f r := rfl
    rw [e]
    cases i with
    | zero =>
      rw [Nat.zero_mul, Nat.zero_add, List.getElem?_append_left (by rw [hk]; exact hj)]
      rfl
    | succ i =>
      rw [List.getElem?_append_right (by rw [hk, Nat.add_mul]; omega), hk, show (i + 1) * k + j - k = i * k + j from by rw [Nat.add_mul]; omega, ih d i j (by simpa using h) hj]
      rfl

theorem grown_of_below {w w' : World} (h : Below w.heap.size w w') (row : Option Nat) : w.grownBy w' row := ⟨h.1, h.2, h.3, h.size, fun k hk _ => h.block k hk⟩

theorem owns_below {w w' : World} (hb : Below w.heap.size w w') {base : Nat} {e : TypeId} {size : Nat} {v : Value} {n : Nat} {xs : List Value} (h : w.ownsRow base e size v n xs) : w'.ownsRow base e size v n xs := by
  refine h.kept (grown_of_below hb none) ?_
  cases hv : v.ownBlock with
  | none => exact .inl rfl
  | some k => exact .inr (by simp)

/-- An own slice's array lies in no elder block: what is read there stands. -/
theorem below_of_grown {w W W' : World} {base : Nat} {e : TypeId} {size : Nat} {v : Value} {k : Nat} {xs : List Value} {o : Obj} (hb : Below base w W) (hrow : W.ownsRow base e size v k xs) (hg : (W.alloc o).grownBy W' v.ownBlock) (hB : base ≤ W.heap.size) : Below base w W' :=
  Below.grown (hb.alloc hB _) hg (by simp; omega) (fun j hj => by have := (hrow.lt _ hj).1; omega)

theorem owns_shape {W : World} {base : Nat} {e : TypeId} {size : Nat} {v : Value} {k : Nat} {xs : List Value} (h : W.ownsRow base e size v k xs) : ∃ a cap, v = .slice a k cap := by
  rcases h.2 with ⟨rfl, rfl⟩ | ⟨g, cap, _, rfl, _⟩
  · exact ⟨none, 0, rfl⟩
  · exact ⟨some ⟨g, 0, none⟩, cap, rfl⟩

/-- Where a list lies that a call has made. -/
theorem owns_cells {W : World} {base : Nat} {e : TypeId} {k : Nat} {a : Option Addr} {n cap : Nat} {xs : List Value} (h : W.ownsRow base e k (.slice a n cap) n xs) (hn : 0 < n) : ∃ b, base ≤ b ∧ a = some ⟨b, 0, none⟩ ∧ ∀ j u, xs[j]? = some u → W.cell? ⟨b, j, none⟩ = some u := by
  have hlt := h.lt
  rcases h.2 with ⟨_, h0⟩ | ⟨g, cap', cur, hv, _⟩
  · omega
  · simp only [Value.slice.injEq] at hv
    obtain ⟨rfl, -, -⟩ := hv
    have hc := h.cells (g := g) rfl
    refine ⟨g, (hlt g rfl).1, rfl, fun j u hj => ?_⟩
    have := hc j u hj
    have hadd : (⟨g, 0, none⟩ : Addr).add j = ⟨g, 0 + j, none⟩ := by unfold Addr.add; split <;> simp_all
    rwa [hadd, Nat.zero_add] at this

theorem owns_each {f : α → List Value} {k : Nat} (hk : ∀ x, (f x).length = k) {W : World} {base : Nat} {e : TypeId} {a : Option Addr} {cap : Nat} {L : List α} (h : W.ownsRow base e k (.slice a L.length cap) L.length (flatV f L)) (d : α) :
    ∀ i, i < L.length → ∃ b, base ≤ b ∧ a = some ⟨b, 0, none⟩ ∧ ∀ j u, j < k → (f (L.getD i d))[j]? = some u → W.cell? ⟨b, i * k + j, none⟩ = some u := by
  intro i hi
  obtain ⟨b, hb, ha, hc⟩ := owns_cells h (by omega)
  exact ⟨b, hb, ha, fun j u hj hu => hc _ u (by rw [flatV_get hk L d i j hi hj]; exact hu)⟩

def markC (m : Int × Int) : List Value := [.int .u8 m.1, .int .i64 m.2]
def strC (s : Tx) : List Value := [.string s]
def numC (n : Tx × Int) : List Value := [.string n.1, .int .i64 n.2]
def swapC (s : Int × Int × Int) : List Value := [.int .u8 s.1, .int .i64 s.2.1, .int .i64 s.2.2]

theorem marks_of_owns {W : World} {base : Nat} {e : TypeId} {a : Option Addr} {cap : Nat} {L : List (Int × Int)} (h : W.ownsRow base e 2 (.slice a L.length cap) L.length (flatV markC L)) : Marks W a L := by
  intro i hi
  obtain ⟨b, -, ha, hc⟩ := owns_each (f := markC) (fun _ => rfl) h (0, 0) i hi
  exact ⟨b, 0, ha, by rw [Nat.zero_add]; exact hc 0 _ (by decide) rfl, by rw [Nat.zero_add]; exact hc 1 _ (by decide) rfl⟩

theorem strs_of_owns {W : World} {base : Nat} {e : TypeId} {a : Option Addr} {cap : Nat} {L : List Tx} (h : W.ownsRow base e 1 (.slice a L.length cap) L.length (flatV strC L)) : Strs W a L := by
  intro i hi
  obtain ⟨b, -, ha, hc⟩ := owns_each (f := strC) (fun _ => rfl) h .empty i hi
  exact ⟨b, 0, ha, by have := hc 0 _ (by decide) rfl; rw [Nat.mul_one, Nat.add_zero] at this; rw [Nat.zero_add]; exact this⟩

theorem nums_of_owns {W : World} {base : Nat} {e : TypeId} {a : Option Addr} {cap : Nat} {L : List (Tx × Int)} (h : W.ownsRow base e 2 (.slice a L.length cap) L.length (flatV numC L)) : Nums W a L := by
  intro i hi
  obtain ⟨b, -, ha, hc⟩ := owns_each (f := numC) (fun _ => rfl) h (.empty, 0) i hi
  exact ⟨b, 0, ha, by rw [Nat.zero_add]; exact hc 0 _ (by decide) rfl, by rw [Nat.zero_add]; exact hc 1 _ (by decide) rfl⟩

theorem swaps_of_owns {W : World} {base : Nat} {e : TypeId} {a : Option Addr} {cap : Nat} {L : List (Int × Int × Int)} (h : W.ownsRow base e 3 (.slice a L.length cap) L.length (flatV swapC L)) : SwapsAt W a L := by
  intro i hi
  obtain ⟨b, -, ha, hc⟩ := owns_each (f := swapC) (fun _ => rfl) h (0, 0, 0) i hi
  exact ⟨b, 0, ha, by rw [Nat.zero_add]; exact hc 0 _ (by decide) rfl, by rw [Nat.zero_add]; exact hc 1 _ (by decide) rfl, by rw [Nat.zero_add]; exact hc 2 _ (by decide) rfl⟩

theorem cell_three_new (w : World) (x y z : Value) (t : TypeId) : ∀ j u, [x, y, z][j]? = some u → (w.alloc (.cells #[x, y, z] t)).cell? ((⟨w.heap.size, 0, none⟩ : Addr).add j) = some u := by
  intro j u hj
  have hadd : (⟨w.heap.size, 0, none⟩ : Addr).add j = ⟨w.heap.size, 0 + j, none⟩ := by unfold Addr.add; split <;> simp_all
  rw [hadd, Nat.zero_add]
  match j, hj with
  | 0, hj => simpa [go_sem] using hj
  | 1, hj => simpa [go_sem] using hj
  | 2, hj => simpa [go_sem] using hj
  | j + 3, hj => simp at hj

end Go.Proofs.YtbampfkmgjfofaaGreatDoor
