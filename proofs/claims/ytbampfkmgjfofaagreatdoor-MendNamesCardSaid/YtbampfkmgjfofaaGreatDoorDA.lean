/- Mend: the requests that are accepted, collected anew (slices.Values, AppendSeq, Collect). -/
import Derived.Test.YtbampfkmgjfofaaGreatDoorL
import Derived.Test.YtbampfkmgjfofaaGreatDoorX
namespace Go.Proofs.YtbampfkmgjfofaaGreatDoor
open Go.RowKit

attribute [local go_sem] Oper.semAt_some

variable {F : Fence} {n : Nat}

theorem book_owns {A A' : World} {row : Option Nat} {base : Nat} {e : TypeId} {size : Nat} {v : Value} {k : Nat} {xs : List Value} (h : A.ownsRow base e size v k xs) (hg : A.grownBy A' row) (hr : ∀ r, row = some r → ∃ o : Obj, A.heap[r]? = some o ∧ o.isCells = false) : A'.ownsRow base e size v k xs := by
  refine h.kept hg ?_
  rcases h.2 with ⟨rfl, _⟩ | ⟨g, cap, cur, rfl, _, hgb, _⟩
  · exact .inl rfl
  · refine .inr fun e' => ?_
    obtain ⟨o, ho, hc⟩ := hr g (by simpa [Value.ownBlock] using e'.symm)
    rw [hgb] at ho; cases ho; cases hc

/-- What an iterator of requests hands on. -/
def encA (x : Ask) : Array Value := #[askV x]

set_option maxHeartbeats 400000 in
theorem values_in (hF : ∀ f, F.fn f) (hro : F.round = none) (a : Option Addr) (m cap : Nat) (w : World) :
    CallsIn F n Tryz.prog 89 #[.slice a m cap] w fun e w' => e = .returned (.func (.func 124) #[] #[.pointer (some ⟨w.heap.size, 0, none⟩)]) ∧ w.alloc (.cells #[.slice a m cap] 128) = w' := by
  refine callsIn_of_wp Tryz.func89 rfl (hF _) ?_ hro
  simp only [Tryz.ntmps89, List.size_toArray, List.length_cons, List.length_nil, Nat.reduceAdd, Nat.reduceSub, Array.replicate_succ, Array.replicate_zero, List.push_toArray, List.append_toArray, List.nil_append, List.cons_append]
  gi_wp2
  go_ret
  exact ⟨rfl, rfl⟩

theorem ask_drop {T : List Ask} {k : Nat} (hk : k < T.length) : T.drop k = T.getD k default :: T.drop (k + 1) := by
  rw [List.drop_eq_getElem_cons hk, List.getD_eq_getElem?_getD, List.getElem?_eq_getElem hk, Option.getD_some]

set_option maxRecDepth 100000 in
set_option maxHeartbeats 2000000 in
theorem values1_in (hF : ∀ f, F.fn f) (hro : F.round = none) (_hn : 1 ≤ n) (l bs nv cv base : Nat) (av : Option Addr) (T : List Ask) (hT : T.length = nv) (hnv : nv ≤ 1000)
    (w0 : World) (hA : AsksAt base w0 av T)
    (J Jx : List Ask → World → Prop) (M : World → Nat → Prop) (W : World) (hw0 : Below w0.heap.size w0 W) (hJ : OwnFrom W.heap.size J) (hM : MineOk W.heap.size J M)
    (_hbs : ¬ M W bs) (hfree : ∀ k, k < w0.heap.size → ¬ M W k)
    (hY : ∀ pre x rest W1, T = pre ++ x :: rest → J pre W1 → YieldAt F (n - 1) Tryz.prog l (encA x) W1 fun e W' =>
      (e = .returned (.bool true) ∧ J (pre ++ [x]) W' ∧ Keep M W1 W' ∧ KeepsFrom W.heap.size W1 W') ∨ (e = .returned (.bool false) ∧ Jx (pre ++ [x]) W' ∧ KeepsFrom W.heap.size W1 W'))
    (e0 : W.cell? ⟨bs, 0, none⟩ = some (.slice av nv cv)) (h0 : J [] W) :
    CallsIn F n Tryz.prog 124 #[.func (.yield l) #[] #[], .pointer (some ⟨bs, 0, none⟩)] W fun e W' => (∃ v, e = .returned v) ∧
      (J T W' ∨ ∃ pre, pre <+: T ∧ Jx pre W') := by
  have HT := hid hT
  clear hT
  have get : ∀ {b o : Nat} {v : Value} {wr : World}, w0.cell? ⟨b, o, none⟩ = some v → Keep M W wr → wr.cell? ⟨b, o, none⟩ = some v := fun hc hk =>
    hk.cell (hfree _ (lt_of_cell hc)) (cell_grown hw0 hc)
  refine callsIn_of_wp Tryz.func124 rfl (hF _) ?_ hro
  simp only [Tryz.ntmps124, List.size_toArray, List.length_cons, List.length_nil, Nat.reduceAdd, Nat.reduceSub, Array.replicate_succ, Array.replicate_zero, List.push_toArray, List.append_toArray, List.nil_append, List.cons_append]
  have gb := lt_of_cell e0
  gi_wp2
  gi_loopw [7] (fun i wr => ∃ (k : Nat) (pre : List Ask), k ≤ nv ∧ i = .int .i64 k ∧ Hid (T = pre ++ T.drop k) ∧ J pre wr ∧ Keep M W wr)
    (fun i _ => nv - (intOf i).toNat)
  case atStart => exact ⟨0, [], Nat.zero_le _, rfl, hid rfl, h0, Keep.refl _ _⟩
  case round =>
    obtain ⟨k, pre, hk, rfl, HE, hj, hB⟩ := hrel
    by_cases hlt : k < nv
    · have hkl : k < T.length := by rw [HT.out]; exact hlt
      obtain ⟨g, off, -, ha, x0, x1, x2, x3, x4, x5⟩ := hA k hkl
      have hE := ask_drop hkl
      generalize T.getD k default = x at x0 x1 x2 x3 x4 x5 hE
      have y0 := get x0 hB
      have y1 := get x1 hB
      have y2 := get x2 hB
      have y3 := get x3 hB
      have y4 := get x4 hB
      have y5 := get x5 hB
      have gb := lt_of_cell y1
      subst ha
      clear x0 x1 x2 x3 x4 x5
      have HE1 : Hid (T = pre ++ x :: T.drop (k + 1)) := hid (by rw [← hE]; exact HE.out)
      clear hE HE
      have hKa := hM.alloc hj (.cells #[.int .i64 x.b, .int .i64 x.m, .int .i64 x.f, .int .i64 x.c, .slice x.pa x.pn x.pc, .int .i64 (x.i : Int)] 162)
      obtain ⟨fn, tmps, assign, body, hy, hR⟩ := hY pre x _ (wr.alloc (.cells #[.int .i64 x.b, .int .i64 x.m, .int .i64 x.f, .int .i64 x.c, .slice x.pa x.pn x.pc, .int .i64 (x.i : Int)] 162)) HE1.out (hJ.alloc _ hj)
      dsimp only [encA, askV] at hy
      gi_wp2
      refine hR.mono ?_
      rintro e W3 (⟨rfl, hJ3, hk3, _⟩ | ⟨rfl, hJx3, _⟩)
      · gi_wp2
        go_roundw
        case rel => exact ⟨k + 1, pre ++ [x], by omega, by go_num, hid (by rw [List.append_assoc]; exact HE1.out), hJ3, hB.trans (hKa.trans hk3)⟩
        case measure => simp [intOf]; omega
      · gi_wp2
        refine bodyPost_ret (results_none rfl _ _ _) rfl ?_
        exact ⟨⟨_, rfl⟩, .inr ⟨pre ++ [x], ⟨T.drop (k + 1), by rw [List.append_assoc]; exact HE1.out.symm⟩, hJx3⟩⟩
    · have HE1 : Hid (T = pre) := hid (by
        have h := HE.out
        rw [List.drop_eq_nil_of_le (by rw [HT.out]; omega), List.append_nil] at h
        exact h)
      clear HE
      gi_wp2
      refine bodyPost_end (results_none rfl _ _ _) rfl ?_
      exact ⟨⟨_, rfl⟩, .inl (by rw [HE1.out]; exact hj)⟩

/-- What Collect makes of them. -/
def CollectPost (T : List Ask) (nv : Nat) (w : World) (e : Ending) (w' : World) : Prop :=
  ∃ ra rc, e = .returned (.slice ra nv rc) ∧ w'.ownsRow w.heap.size 162 6 (.slice ra nv rc) nv (flatV askC T) ∧ Below w.heap.size w w'

set_option maxRecDepth 100000 in
set_option maxHeartbeats 2000000 in
theorem appendSeq_any (T : List Ask) (bs nv cv base : Nat) (av : Option Addr) (w : World) (hT : T.length = nv) (hnv : nv ≤ 1000) (hA : AsksAt base w av T) (e0 : w.cell? ⟨bs, 0, none⟩ = some (.slice av nv cv)) :
    Calls Tryz.prog 145 #[.slice none 0 0, .func (.func 124) #[] #[.pointer (some ⟨bs, 0, none⟩)]] w (CollectPost T nv w) := by
  obtain ⟨F, hFw⟩ : ∃ F, F = Fence.wide := ⟨_, rfl⟩
  have hF : ∀ f, F.fn f := fun f => by rw [hFw]; exact trivial
  have hro : F.round = none := by rw [hFw]; rfl
  suffices h : CallsIn F 9 Tryz.prog 145 #[.slice none 0 0, .func (.func 124) #[] #[.pointer (some ⟨bs, 0, none⟩)]] w (CollectPost T nv w) by
    rw [hFw] at h; exact callsIn_wide.1 h
  clear hFw
  obtain ⟨n, hn⟩ : ∃ n, n = 9 := ⟨_, rfl⟩
  rw [← hn]
  have hn3 : 6 ≤ n := by omega
  have h1n : 1 ≤ n := by omega
  clear hn
  have HT := hid hT
  clear hT
  obtain ⟨i0, hi, hz0, hz1, hz2⟩ := info_parts Tryz.info162
  refine callsIn_of_wp_marks Tryz.func145 rfl (hF _) ?_ hro
  simp only [Tryz.ntmps145, List.size_toArray, List.length_cons, List.length_nil, Nat.reduceAdd, Nat.reduceSub, Array.replicate_succ, Array.replicate_zero, List.push_toArray, List.append_toArray, List.nil_append, List.cons_append]
  have gb := lt_of_cell e0
  gi_wp2_with fail
  have bl := Boxed.new w 128 (.slice none 0 0)
  obtain ⟨W1, hW1⟩ : ∃ W, W = w.alloc (.cells #[.slice none 0 0] 128) := ⟨_, rfl⟩
  have hB1 : Below w.heap.size w W1 := by rw [hW1]; exact below_alloc w _
  have z1 : W1.heap.size = w.heap.size + 1 := by rw [hW1]; simp
  rw [← hW1] at bl ⊢
  clear hW1
  let I : List Ask → World → Prop := fun pre X => (∃ v, Boxed X w.heap.size 128 v ∧ X.ownsRow w.heap.size 162 6 v pre.length (flatV askC pre)) ∧ Below w.heap.size w X
  have hI : OwnFrom W1.heap.size I := fun s A B row hs hg hr => by
    obtain ⟨⟨v, hv, hrow⟩, hb⟩ := hs
    have hr' : ∀ r, row = some r → ∃ o : Obj, A.heap[r]? = some o ∧ o.isCells = false := fun r e => (hr r e).2
    exact ⟨⟨v, book_boxed hv hg hr', book_owns hrow hg hr'⟩, hb.grown hg hb.size (fun r e => by have := (hr r e).1; omega)⟩
  have hM : MineOk W1.heap.size I (Mine w.heap.size) := mine_ok (t := 128) (n₀ := w.heap.size) (e := 162) (size := 6) fun s X ⟨⟨v, hv, hrow⟩, _⟩ => ⟨v, _, _, hv, hrow⟩
  refine rangeO hro h1n (gf := 124) (lb := #[.pointer (some ⟨bs, 0, none⟩)]) rfl (hF _) (enters_of Tryz.func124 (by kernel_rfl) rfl)
    (encs := encA) (Res := fun k => k < w.heap.size) (xs := T) (w0 := W1)
    (fun lx J Jx M W hW hJ hJx hMM hres hY h0 => values1_in hF hro (by omega) lx bs nv cv base av T HT.out hnv w hA J Jx M W (hB1.trans (hW.mono hB1.size)) hJ hMM (hres _ gb) (fun k hk => hres k hk) hY (cell_grown hW (cell_grown hB1 e0)) h0)
    (Below.refl _ _) (fun _ => rfl) I (fun _ _ _ => False) hI (fun _ _ _ _ _ h => h.elim) (Mine w.heap.size) hM ?hres
    ⟨⟨_, bl, World.ownsRow_nil _ _ _ _⟩, hB1⟩
    (fun x a' X => ∃ Bx, ¬ Mine w.heap.size X Bx ∧ (∃ pre, I pre X) ∧ AskAt X Bx x ∧
      a' = { tmps := #[.slice none 0 0, .func (.func 124) #[] #[.pointer (some ⟨bs, 0, none⟩)], .pointer (some ⟨w.heap.size, 0, none⟩), undef, .slice none 0 0, .pointer (some ⟨Bx, 0, none⟩), .func (.func 124) #[] #[.pointer (some ⟨bs, 0, none⟩)], askV x, undef, undef, undef, undef, undef], defers := [] })
    ?hAx ?assign ?body ?done ?stop
  case hres =>
    intro k hk hmine
    rcases (mine_iff bl _).1 hmine with e | e
    · omega
    · simp [Value.ownBlock] at e
  case hAx =>
    rintro x a' s A B row ⟨Bx, hm', ⟨pre, hi'⟩, p, e⟩ hg hr
    exact ⟨Bx, fun h => hm' (hM.grown _ _ _ _ _ hi' hg hr h), ⟨pre, hI _ _ _ row hi' hg hr⟩, ⟨cell_kept p.c0 hg (fun r e => (hr r e).2), cell_kept p.c1 hg (fun r e => (hr r e).2), cell_kept p.c2 hg (fun r e => (hr r e).2), cell_kept p.c3 hg (fun r e => (hr r e).2), cell_kept p.c4 hg (fun r e => (hr r e).2), cell_kept p.c5 hg (fun r e => (hr r e).2)⟩, e⟩
  case assign =>
    intro l2 pre x X K hi' hX hK
    dsimp only [encA, askV]
    gi_wp2
    exact hK _ (X.alloc (askO x)) ((KeepsOthers.alloc _ _).from _) (hM.alloc hi' _) (OwnFrom.alloc hI _ hi') ⟨X.heap.size, hM.fresh hi' _, ⟨pre, OwnFrom.alloc hI _ hi'⟩, AskAt.new X x, rfl⟩
  case body =>
    rintro l2 pre x rest a' X hxs hX hi' ⟨Bx, hmB, _, p, rfl⟩
    obtain ⟨⟨v, hv, hrow⟩, hb⟩ := hi'
    have hpl : pre.length < 1000 := by have := HT.out; rw [hxs, List.length_append, List.length_cons] at this; omega
    clear hxs
    obtain ⟨va, vc, rfl⟩ := owns_shape hrow
    have hvc := hv.cell
    have hvf := hv.frozen
    have p0 := p.c0
    have p1 := p.c1
    have p2 := p.c2
    have p3 := p.c3
    have p4 := p.c4
    have p5 := p.c5
    have hbx := lt_of_cell p0
    unfold askV
    gi_wp2_with (gi_at_builtin; refine wpListIn_append_at _ rfl _ _ 128 rfl w.heap.size 162 i0 (.agg #[.int .i64 0, .int .i64 0, .int .i64 0, .int .i64 0, .slice none 0 0, .int .i64 0]) 6 64 Tryz.underlying128 hi hz0 hz1 hz2 rfl (by decide) _ _ _ rfl (hrow.alloc _) ⟨X.heap.size, 0, none⟩ 1 1 [.int .i64 x.b, .int .i64 x.m, .int .i64 x.f, .int .i64 x.c, .slice x.pa x.pn x.pc, .int .i64 (x.i : Int)] rfl rfl (cells_new X #[.int .i64 x.b, .int .i64 x.m, .int .i64 x.f, .int .i64 x.c, .slice x.pa x.pn x.pc, .int .i64 (x.i : Int)] 162) (fun y hy => by simp at hy; rcases hy with rfl | rfl | rfl | rfl | rfl | rfl <;> rfl) (by decide) (by unfold maxLen; omega) (by omega) (by have := hb.size; simp; omega) ?_; intro v' wa hown' hgrow hat; obtain ⟨g', cap', rfl⟩ := ownsRow_succ hown'; obtain ⟨hv1, hv2, hr2, hk2, hb2⟩ := hv.appended (by decide) hrow hb.size (by omega) hown' hgrow; have hc1 := hv1.cell; have hf1 := hv1.frozen)
    exact ⟨hk2.from _, mine_appended hv (by decide) hrow hb.size (by omega) hown' hgrow hat, ⟨_, hv2, by simpa [flatV_append, flatV, askC] using hr2⟩, hb.trans hb2⟩
  case done =>
    rintro D X hD ⟨⟨v, hv, hrow⟩, hb⟩ hK
    have hvc := hv.cell
    obtain ⟨va, vc, rfl⟩ := owns_shape hrow
    have HR := hid hrow
    clear hrow
    gi_wp2
    refine ⟨by simp, .inl ⟨_, _, rfl, run_takeDeferred hK, ?_⟩⟩
    have o3 := ownsRow_putObj HR.out (.deferred none) hK rfl
    rw [HT.out] at o3
    exact ⟨.slice va nv vc, by simp [results, Tryz.f145, go_sem, HT.out], va, vc, rfl, o3, hb.grown (grownBy_putObj' _ D (.deferred none)) hb.size (fun r e => by cases e; omega)⟩
  case stop =>
    rintro D c pre X hD hpre h hK
    exact h.elim

set_option maxHeartbeats 400000 in
theorem collect_any (T : List Ask) (bs nv cv base : Nat) (av : Option Addr) (w : World) (hT : T.length = nv) (hnv : nv ≤ 1000) (hA : AsksAt base w av T) (e0 : w.cell? ⟨bs, 0, none⟩ = some (.slice av nv cv)) :
    Calls Tryz.prog 122 #[.func (.func 124) #[] #[.pointer (some ⟨bs, 0, none⟩)]] w (CollectPost T nv w) := by
  have h := appendSeq_any T bs nv cv base av w hT hnv hA e0
  clear hT hA e0
  go_enter Tryz.func122, Tryz.ntmps122
  go_wp2_with fail
  refine h.mono ?_
  rintro e w1 ⟨ra, rc, rfl, hown, hb⟩
  have HO := hid hown
  clear hown h
  go_wp2
  go_ret
  exact ⟨ra, rc, rfl, HO.out, hb⟩

end Go.Proofs.YtbampfkmgjfofaaGreatDoor
