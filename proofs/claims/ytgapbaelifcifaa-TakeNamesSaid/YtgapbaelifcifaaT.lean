/- The iterator over a sitting's takes: what it hands over. -/
import Derived.Test.YtgapbaelifcifaaS
namespace Go.Proofs.Ytgapbaelifcifaa
open Go.RowKit Go.Shelf

attribute [local go_sem] Oper.semAt_some

/-- The takes of a stretch, from a second on. -/
def cutS (long short : Int) : Nat → Int → Int → List (Int × Int)
  | 0, _, _ => []
  | k + 1, f, t => if f < t then (f, if t - (f + long) < short then t else f + long) :: cutS long short k (if t - (f + long) < short then t else f + long) t else []

def piecesOf (long short : Int) (x : Int × Int) : List (Int × Int) := cutS long short (x.2 - x.1).toNat x.1 x.2

theorem cutS_fuel {long short : Int} (hl : 1 ≤ long) : ∀ (k : Nat) (f t : Int), t - f ≤ k → ∀ k' : Nat, t - f ≤ k' → cutS long short k f t = cutS long short k' f t := by
  intro k
  induction k with
  | zero =>
    intro f t h k' _
    cases k' with
    | zero => rfl
    | succ k' => rw [cutS, cutS, if_neg (by omega)]
  | succ k ih =>
    intro f t h k' h'
    by_cases hf : f < t
    · cases k' with
      | zero => omega
      | succ k' =>
        rw [cutS, cutS, if_pos hf, if_pos hf]
        generalize he : (if t - (f + long) < short then t else f + long) = e
        have h1 : f < e := by rw [← he]; split <;> omega
        rw [ih e t (by omega) k' (by omega)]
    · rw [cutS, if_neg hf]
      cases k' with
      | zero => rfl
      | succ k' => rw [cutS, if_neg hf]

theorem cutS_done {long short f t : Int} (k : Nat) (hf : ¬ f < t) : cutS long short k f t = [] := by
  cases k with
  | zero => rfl
  | succ k => rw [cutS, if_neg hf]

theorem cutS_step {long short f t : Int} (hl : 1 ≤ long) (hf : f < t) :
    cutS long short (t - f).toNat f t = (f, if t - (f + long) < short then t else f + long) :: cutS long short (t - (if t - (f + long) < short then t else f + long)).toNat (if t - (f + long) < short then t else f + long) t := by
  obtain ⟨k, hk⟩ : ∃ k, (t - f).toNat = k + 1 := ⟨(t - f).toNat - 1, by omega⟩
  rw [hk, cutS, if_pos hf]
  generalize he : (if t - (f + long) < short then t else f + long) = e
  have h1 : f < e := by rw [← he]; split <;> omega
  exact congrArg _ (cutS_fuel hl k e t (by omega) _ (by omega))

variable {F : Fence} {n : Nat}

set_option maxHeartbeats 400000 in
theorem stretches_in (hF : ∀ f, F.fn f) (hro : F.round = none) (a : Option Addr) (m cap : Nat) (len long short : Int) (w : World) :
    CallsIn F n Try.prog 87 #[.agg #[.int .i64 len, .slice a m cap, .int .i64 long, .int .i64 short]] w fun e w' =>
      e = .returned (.func (.func 88) #[] #[.pointer (some ⟨w.heap.size, 0, none⟩)]) ∧ w.alloc (.cells #[.int .i64 len, .slice a m cap, .int .i64 long, .int .i64 short] 34) = w' := by
  refine callsIn_of_wp Try.func87 rfl (hF _) ?_ hro
  simp only [Try.ntmps87, List.size_toArray, List.length_cons, List.length_nil, Nat.reduceAdd, Nat.reduceSub, Array.replicate_succ, Array.replicate_zero, List.push_toArray, List.append_toArray, List.nil_append, List.cons_append]
  gi_wp2
  go_ret
  exact ⟨rfl, rfl⟩

theorem roundIn_any {P : Program} {m m' l l2 : Nat} {f : FuncId} {tmps : Array Value} {assign body : Code} {w : World} {R : Ending → World → Prop} (hd : F.depth = none) (h : RoundIn F m P l f tmps assign body w R) :
    RoundIn (F.inRound l2) m' P l f tmps assign body w R := ⟨h.1, fun c cs _ => h.2 c cs (fun d e => by rw [hd] at e; cases e)⟩

theorem OwnFrom.cell {β : Type} (B : Nat) (b o : Nat) (v : Value) : OwnFrom B (fun (_ : β) (W : World) => W.cell? ⟨b, o, none⟩ = some v) :=
  fun _ _ _ _ hs hg hr => cell_kept hs hg (fun r e => (hr r e).2)

set_option maxRecDepth 100000 in
set_option maxHeartbeats 1000000 in
theorem pieces1_in (hF : ∀ f, F.fn f) (hro : F.round = none) (hd : F.depth = none) (hn : 3 ≤ n) (l bs m cap : Nat) (a : Option Addr) (len long short : Int) (L : List (Int × Int)) (hL : L.length = m) (hm : m ≤ maxLen)
    (b1 : 1 ≤ long) (b2 : long ≤ 1200) (b3 : 1 ≤ short) (b4 : short ≤ long) (hbd : ∀ x ∈ strs len 0 L, 0 ≤ x.1 ∧ x.2 ≤ 36000)
    (J Jx : List (Int × Int) → World → Prop) (M : World → Nat → Prop) (W : World) (hJ : OwnFrom W.heap.size J) (hJx : OwnFrom W.heap.size Jx) (hM : MineOk W.heap.size J M)
    (hbs : ¬ M W bs) (hsb : 0 < m → ∀ b off, a = some ⟨b, off, none⟩ → ¬ M W b)
    (hY : ∀ pre x rest W1, (strs len 0 L).flatMap (piecesOf long short) = pre ++ x :: rest → J pre W1 → YieldAt F (n - 1) Try.prog l (encSp x) W1 fun e W' =>
      (e = .returned (.bool true) ∧ J (pre ++ [x]) W' ∧ Keep M W1 W' ∧ KeepsFrom W.heap.size W1 W') ∨ (e = .returned (.bool false) ∧ Jx (pre ++ [x]) W' ∧ KeepsFrom W.heap.size W1 W'))
    (c0 : W.cell? ⟨bs, 0, none⟩ = some (.int .i64 len)) (c1 : W.cell? ⟨bs, 1, none⟩ = some (.slice a m cap)) (c2 : W.cell? ⟨bs, 2, none⟩ = some (.int .i64 long)) (c3 : W.cell? ⟨bs, 3, none⟩ = some (.int .i64 short)) (hS : Spans W a L) (h0 : J [] W) :
    CallsIn F n Try.prog 86 #[.func (.yield l) #[] #[], .pointer (some ⟨bs, 0, none⟩)] W fun e W' => (∃ v, e = .returned v) ∧
      (J ((strs len 0 L).flatMap (piecesOf long short)) W' ∨ ∃ pre, pre <+: (strs len 0 L).flatMap (piecesOf long short) ∧ Jx pre W') := by
  have h1 : 1 ≤ n := by omega
  have w0 := lt_of_cell c0
  refine callsIn_of_wp_marks Try.func86 rfl (hF _) ?_ hro
  simp only [Try.ntmps86, List.size_toArray, List.length_cons, List.length_nil, Nat.reduceAdd, Nat.reduceSub, Array.replicate_succ, Array.replicate_zero, List.push_toArray, List.append_toArray, List.nil_append, List.cons_append]
  gi_wp2_with (gi_at_call 87; refine (stretches_in (F := F) (n := n - 1) hF hro a m cap len long short _).mono ?_; rintro e w' ⟨rfl, rfl⟩)
  obtain ⟨B1, hB1⟩ : ∃ B1, B1 = W.heap.size := ⟨_, rfl⟩
  obtain ⟨W2, hW2⟩ : ∃ W2, W2 = (W.alloc (.cells #[.func (.yield l) #[] #[]] 142)).alloc (.cells #[.int .i64 len, .slice a m cap, .int .i64 long, .int .i64 short] 34) := ⟨_, rfl⟩
  have hk1 := hM.alloc h0 (.cells #[.func (.yield l) #[] #[]] 142)
  have j1 : J [] (W.alloc (.cells #[.func (.yield l) #[] #[]] 142)) := hJ.alloc _ h0
  have hk2 := hM.alloc j1 (.cells #[.int .i64 len, .slice a m cap, .int .i64 long, .int .i64 short] 34)
  have j2 : J [] W2 := by rw [hW2]; exact hJ.alloc _ j1
  have hkW : Keep M W W2 := by rw [hW2]; exact hk1.trans hk2
  have m1 : ¬ M W2 B1 := by rw [hW2, hB1]; exact hk2.other _ (by simp) (hM.fresh h0 _)
  have m2 : ¬ M W2 (B1 + 1) := by rw [hW2, hB1]; have := hM.fresh j1 (.cells #[.int .i64 len, .slice a m cap, .int .i64 long, .int .i64 short] 34); rwa [World.size_alloc] at this
  have m3 : ¬ M W2 bs := hkW.other _ w0 hbs
  have s2 : W2.heap.size = B1 + 2 := by rw [hW2, hB1]; simp
  have hbW : Below W.heap.size W W2 := by rw [hW2]; exact ((Below.refl _ W).alloc (Nat.le_refl _) _).alloc (by simp) _
  have d0 : W2.cell? ⟨B1, 0, none⟩ = some (.func (.yield l) #[] #[]) := by rw [hW2, hB1]; simp
  have d1 : W2.cell? ⟨B1 + 1, 0, none⟩ = some (.int .i64 len) := by rw [hW2, hB1]; simp
  have d2 : W2.cell? ⟨B1 + 1, 1, none⟩ = some (.slice a m cap) := by rw [hW2, hB1]; simp
  have k2 := cell_grown hbW c2
  have k3 := cell_grown hbW c3
  rw [← hW2, ← hB1]
  clear hW2
  have sle : W.heap.size ≤ W2.heap.size := by omega
  have sB : B1 + 2 ≤ W2.heap.size := by omega
  have HB1 := hid hB1
  clear hB1 s2
  have hMI : ∀ {A A' : World} {row : Option Nat} {s : List (Int × Int)} {k : Nat}, J s A → A.grownBy A' row → (∀ r, row = some r → W2.heap.size ≤ r ∧ ∃ o : Obj, A.heap[r]? = some o ∧ o.isCells = false) → ¬ M A k → ¬ M A' k :=
    fun hs hg hr hm hm' => hm (hM.grown _ _ _ _ _ hs hg (fun r e => ⟨by have := (hr r e).1; omega, (hr r e).2⟩) hm')
  let I : List (Int × Int) → World → Prop := fun pre X => J (pre.flatMap (piecesOf long short)) X ∧ X.cell? ⟨B1, 0, none⟩ = some (.func (.yield l) #[] #[]) ∧ X.cell? ⟨bs, 2, none⟩ = some (.int .i64 long) ∧ X.cell? ⟨bs, 3, none⟩ = some (.int .i64 short) ∧ ¬ M X B1 ∧ ¬ M X bs
  have hI : OwnFrom W2.heap.size I := fun s A B row hs hg hr =>
    ⟨OwnFrom.le hJ (by omega) _ _ _ row hs.1 hg hr, cell_kept hs.2.1 hg (fun r e => (hr r e).2), cell_kept hs.2.2.1 hg (fun r e => (hr r e).2), cell_kept hs.2.2.2.1 hg (fun r e => (hr r e).2), hMI hs.1 hg hr hs.2.2.2.2.1, hMI hs.1 hg hr hs.2.2.2.2.2⟩
  refine rangeO hro h1 (gf := 88) (lb := #[.pointer (some ⟨B1 + 1, 0, none⟩)]) rfl (hF _) (enters_of Try.func88 (by kernel_rfl) rfl)
    (stretches_seq hF hro (by omega) (B1 + 1) m cap a len L hL hm W2 d1 d2 (hS.grown hbW)) (Below.refl _ _) (fun _ => rfl) I (fun c _ X => c = .ret ∧ ∃ q, q <+: (strs len 0 L).flatMap (piecesOf long short) ∧ Jx q X) hI ?hIx M ((hM.le (by omega)).of fun s X h => ⟨_, h.1⟩) ?hres ⟨j2, d0, k2, k3, m1, m3⟩
    (fun x a' X => ∃ (Bx : Nat) (pre : List (Int × Int)), I pre X ∧ ¬ M X Bx ∧ X.cell? ⟨Bx, 0, none⟩ = some (.int .i64 x.1) ∧ X.cell? ⟨Bx, 1, none⟩ = some (.int .i64 x.2) ∧
      a' = { tmps := #[.func (.yield l) #[] #[], .pointer (some ⟨bs, 0, none⟩), .pointer (some ⟨B1, 0, none⟩), .pointer (some ⟨Bx, 0, none⟩), undef, undef, .agg #[.int .i64 len, .slice a m cap, .int .i64 long, .int .i64 short], .func (.func 88) #[] #[.pointer (some ⟨B1 + 1, 0, none⟩)], .agg #[.int .i64 x.1, .int .i64 x.2], undef, undef, undef, undef, undef, undef, undef, undef, undef, undef, undef, undef, undef, undef, undef, undef, undef, undef, undef, undef, undef, undef, undef, undef, undef, undef], defers := [] })
    ?hAx ?assign ?body ?done ?stop
  case hIx =>
    rintro c s A B row ⟨hc, q, hq, hs⟩ hg hr
    exact ⟨hc, q, hq, OwnFrom.le hJx (by omega) _ _ _ row hs hg hr⟩
  case hres =>
    rintro k (rfl | ⟨hm0, off, e⟩)
    · exact m2
    · refine hkW.other k ?_ (hsb hm0 k off e)
      obtain ⟨b', off', e', e1, _⟩ := hS 0 (by omega)
      rw [e] at e'
      cases e'
      exact lt_of_cell e1
  case hAx =>
    rintro x a' s A B row ⟨Bx, pre, hi, hm, p1, p2, e⟩ hg hr
    exact ⟨Bx, pre, hI _ _ _ row hi hg hr, hMI hi.1 hg hr hm, cell_kept p1 hg (fun r e => (hr r e).2), cell_kept p2 hg (fun r e => (hr r e).2), e⟩
  case assign =>
    intro l2 pre x X K hi hX hK
    dsimp only [encSp]
    gi_wp2
    exact hK _ (X.alloc (.cells #[.int .i64 x.1, .int .i64 x.2] 82)) ((KeepsOthers.alloc _ _).from _) ((hM.le (Nat.le_refl _)).alloc hi.1 _) (OwnFrom.alloc hI _ hi) ⟨X.heap.size, pre, OwnFrom.alloc hI _ hi, hM.fresh hi.1 _, by rw [World.cell?_alloc_new]; rfl, by rw [World.cell?_alloc_new]; rfl, rfl⟩
  case body =>
    rintro l2 pre ⟨x1, x2⟩ rest a' X hxs hX hi ⟨Bx, pre', _, hmB, p1, p2, rfl⟩
    obtain ⟨hj, y0, y2, y3, n1, n2⟩ := hi
    obtain ⟨hb1, hb2⟩ := hbd (x1, x2) (by rw [hxs]; simp)
    simp only at hb1 hb2 p1 p2
    have HXS : Hid ((strs len 0 L).flatMap (piecesOf long short) = pre.flatMap (piecesOf long short) ++ (piecesOf long short (x1, x2) ++ rest.flatMap (piecesOf long short))) := hid (by rw [hxs]; simp)
    clear hxs
    gi_wp2
    gi_loopw [4] (fun f wr => ∃ (from_ : Int) (done : List (Int × Int)), f = .int .i64 from_ ∧ 0 ≤ from_ ∧ Hid (piecesOf long short (x1, x2) = done ++ cutS long short (x2 - from_).toNat from_ x2) ∧ J (pre.flatMap (piecesOf long short) ++ done) wr ∧ Keep M X wr ∧ KeepsFrom W2.heap.size X wr) (fun f _ => (x2 - intOf f).toNat)
    case atStart => exact ⟨x1, [], rfl, hb1, hid rfl, by simpa using hj, Keep.refl _ _, KeepsFrom.refl _ _⟩
    case round =>
      obtain ⟨from_, done, rfl, hf0, HE, hjr, hk, hkf⟩ := hrel
      have z0 := hk.cell n1 y0
      have z2 := hk.cell n2 y2
      have z3 := hk.cell n2 y3
      have q1 := hk.cell hmB p1
      have q2 := hk.cell hmB p2
      by_cases hf : from_ < x2
      · have hst := cutS_step (short := short) b1 hf
        by_cases hs : x2 - (from_ + long) < short
        · rw [if_pos hs] at hst
          have HP : Hid (piecesOf long short (x1, x2) = (done ++ [(from_, x2)]) ++ cutS long short (x2 - x2).toNat x2 x2) := hid (by rw [HE.out, hst]; simp)
          have HE1 : Hid ((strs len 0 L).flatMap (piecesOf long short) = (pre.flatMap (piecesOf long short) ++ done) ++ (from_, x2) :: (cutS long short (x2 - x2).toNat x2 x2 ++ rest.flatMap (piecesOf long short))) := hid (by rw [HXS.out, HE.out, hst]; simp)
          clear hst
          obtain ⟨fn, tmps, assign, body, hy, hR⟩ := hY _ (from_, x2) _ wr HE1.out hjr
          dsimp only [encSp] at hy
          gi_wp2
          refine (roundIn_any hd hR).mono ?_
          rintro e W3 (⟨rfl, hJ3, hk3, hf3⟩ | ⟨rfl, hJx3, hf3⟩)
          · gi_wp2
            go_roundw
            case rel => exact ⟨x2, done ++ [(from_, x2)], rfl, by omega, HP, by simpa using hJ3, hk.trans hk3, hkf.trans (KeepsFrom.le hf3 sle)⟩
            case measure => simp [intOf]; omega
          · gi_wp2
            exact ⟨hkf.trans (KeepsFrom.le hf3 sle), rfl, _, ⟨cutS long short (x2 - x2).toNat x2 x2 ++ rest.flatMap (piecesOf long short), by rw [HE1.out]; simp⟩, hJx3⟩
        · rw [if_neg hs] at hst
          have HP : Hid (piecesOf long short (x1, x2) = (done ++ [(from_, from_ + long)]) ++ cutS long short (x2 - (from_ + long)).toNat (from_ + long) x2) := hid (by rw [HE.out, hst]; simp)
          have HE1 : Hid ((strs len 0 L).flatMap (piecesOf long short) = (pre.flatMap (piecesOf long short) ++ done) ++ (from_, from_ + long) :: (cutS long short (x2 - (from_ + long)).toNat (from_ + long) x2 ++ rest.flatMap (piecesOf long short))) := hid (by rw [HXS.out, HE.out, hst]; simp)
          clear hst
          obtain ⟨fn, tmps, assign, body, hy, hR⟩ := hY _ (from_, from_ + long) _ wr HE1.out hjr
          dsimp only [encSp] at hy
          gi_wp2
          refine (roundIn_any hd hR).mono ?_
          rintro e W3 (⟨rfl, hJ3, hk3, hf3⟩ | ⟨rfl, hJx3, hf3⟩)
          · gi_wp2
            go_roundw
            case rel => exact ⟨from_ + long, done ++ [(from_, from_ + long)], rfl, by omega, HP, by simpa using hJ3, hk.trans hk3, hkf.trans (KeepsFrom.le hf3 sle)⟩
            case measure => simp [intOf]; omega
          · gi_wp2
            exact ⟨hkf.trans (KeepsFrom.le hf3 sle), rfl, _, ⟨cutS long short (x2 - (from_ + long)).toNat (from_ + long) x2 ++ rest.flatMap (piecesOf long short), by rw [HE1.out]; simp⟩, hJx3⟩
      · have HP : Hid (piecesOf long short (x1, x2) = done) := hid (by rw [HE.out, cutS_done _ hf]; simp)
        gi_wp2
        exact ⟨hkf, hk, by rw [List.flatMap_append]; simpa [HP.out] using hjr, z0, z2, z3, hk.other _ (by omega) n1, hk.other _ (lt_of_cell y2) n2⟩
  case done =>
    intro D X hD hi hK
    gi_wp2
    refine ⟨by simp, .inl ⟨_, _, rfl, run_takeDeferred hK, ?_⟩⟩
    exact ⟨_, results_none rfl _ _ _, ⟨_, rfl⟩, .inl (OwnFrom.putObj hI _ hi hD hK rfl).1⟩
  case stop =>
    rintro D c pre X hD hpre ⟨rfl, q, hq, hj⟩ hK
    gi_wp2
    refine ⟨by simp, .inl ⟨_, _, rfl, run_takeDeferred hK, ?_⟩⟩
    exact ⟨_, results_none rfl _ _ _, ⟨_, rfl⟩, .inr ⟨q, hq, OwnFrom.putObj (OwnFrom.le hJx sle) _ hj hD hK rfl⟩⟩

end Go.Proofs.Ytgapbaelifcifaa
