/- Tongue, the laws: a text for the program. -/
import Derived.Test.YtohahlnhbppnhaaAE
namespace Go.Proofs.Ytohahlnhbppnhaa
open Go.RowKit
set_option linter.unusedSimpArgs false
set_option linter.unusedVariables false

theorem Try.info91 : (Try.prog.info? 91).map (fun i => (i.zero, i.size, i.bytes)) = some (some (.agg #[.slice none 0 0, .int .i64 0]), 2, 32) := by kernel_rfl

/-- An append to a row of the call's own, at a step of a region; where the row lies then. -/
theorem step_append_at' {P : Program} {w : World} {ops : Array Oper} {o : Oper} {a : Act} {K : Act → World → Prop} {Q : Exit → Act → World → Prop} {E : Prop} (hgd : o.guard = none) (s x : Operand) (t : TypeId)
    (ho : o.op = .call { callee := .builtin .append, args := #[s, x], argTypes := #[t, t] })
    (base : Nat) (e : TypeId) (i : TypeInfo) (z : Value) (size bytes : Nat) (ht : P.underlying t = some (.slice e)) (hi : P.info? e = some i) (hz : i.zero = some z)
    (hsize : i.size = size) (hby : i.bytes = bytes) (hzs : z.cells.size = size) (hsz : 0 < size)
    (v : Value) (n : Nat) (xs : List Value) (hs : a.eval s = v) (hown : w.ownsRow base e size v n xs)
    (ad : Addr) (m c : Nat) (news : List Value) (hx : a.eval x = .slice (some ad) m c) (hl : news.length = m * size) (hnews : ∀ j u, news[j]? = some u → w.cell? (ad.add j) = some u) (h1 : ∀ u ∈ news, u.oneCell' = true)
    (h63 : n + m ≤ maxLen) (hbytes : (n + m) * bytes ≤ 140737488355328) (hbase : base ≤ w.heap.size)
    (h : ∀ v' w', w'.ownsRow base e size v' (n + m) (xs ++ news) → w.grownBy w' v.ownBlock → (v'.ownBlock = v.ownBlock ∨ v'.ownBlock = some w.heap.size) → K (a.put o.dst v') w') :
    if Region.wanted o (yielded ops a.tmps) = true then Oper.wp P o a w K Q else E := by
  have hw : Region.wanted o (yielded ops a.tmps) = true := by simp [Region.wanted, hgd]
  rw [if_pos hw]
  obtain ⟨v', w', hr, h2, h3, -, h5⟩ := run_append_own_at (P := P) w base t o.type e i z size bytes ht hi hz hsize hby hzs hsz v n xs hown ad m c news hl hnews h1 h63 hbytes hbase
  unfold Oper.wp
  simp [execOp, ho, resolve, invoke, builtin, hs, hx, hr, Result.andThen]
  exact h v' w' h2 h3 h5

/-- Marks that lie elsewhere than a row. -/
def Aside (w : World) (v : Value) (ma : Option Addr) : Prop := ∀ ad, ma = some ad → ad.block < w.heap.size ∧ v.ownBlock ≠ some ad.block

/-- The cells of sentences, whose marks lie anywhere but in the row v. -/
def SensAt (w : World) (v : Value) (T : List Sen) (vs : List Value) (j : Nat) : Prop :=
  vs.length = j * 2 ∧ ∀ i, i < j → ∃ ma mc, vs[i * 2]? = some (.slice ma (T.getD i default).marks.length mc) ∧ vs[i * 2 + 1]? = some (.int .i64 (T.getD i default).size) ∧ IntsAt w ma (T.getD i default).marks ∧ Aside w v ma

theorem SensAt.grown {w w' : World} {v : Value} {T : List Sen} {vs : List Value} {j : Nat} (h : SensAt w v T vs j) (hb : Below w.heap.size w w') : SensAt w' v T vs j :=
  ⟨h.1, fun i hi => let ⟨ma, mc, h1, h2, h3, h4⟩ := h.2 i hi; ⟨ma, mc, h1, h2, h3.grown hb, fun ad e => ⟨Nat.lt_of_lt_of_le (h4 ad e).1 hb.size, (h4 ad e).2⟩⟩⟩

theorem SensAt.push {w w' : World} {v v' : Value} {T : List Sen} {vs : List Value} {j : Nat} (h : SensAt w v T vs j) (hg : w.grownBy w' v.ownBlock) (hsz : w.heap.size ≤ w'.heap.size) (hloc : v'.ownBlock = v.ownBlock ∨ v'.ownBlock = some w.heap.size) : SensAt w' v' T vs j :=
  ⟨h.1, fun i hi => by
    obtain ⟨ma, mc, h1, h2, h3, h4⟩ := h.2 i hi
    refine ⟨ma, mc, h1, h2, fun k hk => ?_, fun ad e => ⟨Nat.lt_of_lt_of_le (h4 ad e).1 hsz, ?_⟩⟩
    · obtain ⟨b, off, ea, hc⟩ := h3 k hk
      have hb := h4 _ ea
      exact ⟨b, off, ea, (World.cell?_of_block (w := w) (a := ⟨_, _, none⟩) (hg.block b hb.1 (fun e => hb.2 e.symm))).trans hc⟩
    · have hb := h4 ad e
      rcases hloc with e' | e'
      · rw [e']; exact hb.2
      · rw [e']
        intro e''
        simp only [Option.some.injEq] at e''
        omega⟩

theorem SensAt.snoc {w : World} {v : Value} {T : List Sen} {vs : List Value} {j : Nat} (h : SensAt w v T vs j) {ma : Option Addr} {k mc : Nat} {z : Int} (hk : (T.getD j default).marks.length = k) (hz : (T.getD j default).size = z) (hI : IntsAt w ma (T.getD j default).marks) (hA : Aside w v ma) : SensAt w v T (vs ++ [.slice ma k mc, .int .i64 z]) (j + 1) := by
  refine ⟨by simp [h.1]; omega, fun i hi => ?_⟩
  have hl := h.1
  by_cases e : i = j
  · subst e
    refine ⟨ma, mc, ?_, ?_, hI, hA⟩
    · rw [List.getElem?_append_right (by omega), hl, hk]; simp
    · rw [List.getElem?_append_right (by omega), hl, hz]; simp [show i * 2 + 1 - i * 2 = 1 by omega]
  · obtain ⟨ma', mc', h1, h2, h3, h4⟩ := h.2 i (by omega)
    exact ⟨ma', mc', by rw [List.getElem?_append_left (by omega)]; exact h1, by rw [List.getElem?_append_left (by omega)]; exact h2, h3, h4⟩

theorem text_of_owns {W : World} {base : Nat} {e : TypeId} {a : Option Addr} {n cap : Nat} {T : List Sen} {vs : List Value} (hn : T.length = n) (h : W.ownsRow base e 2 (.slice a n cap) n vs) {v : Value} (hs : SensAt W v T vs n) : TextAt W a T ∧ n ≤ cap := by
  rcases h.2 with ⟨hv, h0⟩ | ⟨g, cap', cur, hv, _, hg, hnc, _⟩
  · simp only [Value.slice.injEq] at hv
    obtain ⟨-, rfl, -⟩ := hv
    exact ⟨fun i hi => by omega, Nat.zero_le _⟩
  · simp only [Value.slice.injEq] at hv
    obtain ⟨rfl, -, rfl⟩ := hv
    refine ⟨fun i hi => ?_, hnc⟩
    have hc := h.cells (g := g) rfl
    have hadd : ∀ j, (⟨g, 0, none⟩ : Addr).add j = ⟨g, 0 + j, none⟩ := fun j => by unfold Addr.add; split <;> simp_all
    obtain ⟨ma, mc, e1, e2, e3, -⟩ := hs.2 i (by omega)
    have c1 := hc _ _ e1
    have c2 := hc _ _ e2
    rw [hadd] at c1 c2
    exact ⟨g, 0, ma, mc, rfl, c1, by rw [Nat.add_assoc]; exact c2, e3⟩

set_option maxRecDepth 100000 in
set_option maxHeartbeats 1000000 in
theorem text_any (L : List Sen) (n nc : Nat) (la : Option Addr) (w : World) (hL : L.length = n) (hn : n ≤ 1000) (hm : ∀ s ∈ L, s.marks.length ≤ 1000) (hS : TextAt w la L) :
    Calls Try.prog 20 #[.slice la n nc] w fun e w' => ∃ b c, e = .returned (.slice b n c) ∧ TextAt w' b L ∧ n ≤ c ∧ Below w.heap.size w w' := by
  obtain ⟨i0, hi0, hz0, hz1, hz2⟩ := info_parts Try.info91
  have HL := hid hL
  clear hL
  go_enter Try.func20, Try.ntmps20
  go_wp2_with fail
  go_loopw [3, 4] (fun v i wr => ∃ (j : Nat) (vs : List Value), j ≤ n ∧ i = .int .i64 j ∧ wr.ownsRow w.heap.size 91 2 v j vs ∧ Hid (SensAt wr v L vs j) ∧ Below w.heap.size w wr) (fun _ i _ => n - (intOf i).toNat)
  case atStart => exact ⟨0, [], Nat.zero_le _, rfl, World.ownsRow_nil _ _ _ _, hid ⟨rfl, fun i hi => by omega⟩, Below.refl _ _⟩
  case round =>
    obtain ⟨j, vs, hj, rfl, hown, HV, hB⟩ := hrel
    by_cases hlt : j < n
    · have hlt' : (j : Int) < n := by omega
      obtain ⟨b, off, ma, mc, ea, e1, e2, e3⟩ := hS j (by rw [HL.out]; exact hlt)
      subst ea
      have gb := lt_of_cell e1
      replace e1 := cell_grown hB e1
      replace e2 := cell_grown hB e2
      replace e3 := e3.grown hB
      have gw := lt_of_cell e1
      obtain ⟨M, hM⟩ : ∃ M, (L.getD j default).marks = M := ⟨_, rfl⟩
      obtain ⟨z, hz⟩ : ∃ z, (L.getD j default).size = z := ⟨_, rfl⟩
      obtain ⟨k, hk⟩ : ∃ k, M.length = k := ⟨_, rfl⟩
      have hk1 : k ≤ 1000 := by
        rw [← hk, ← hM]
        exact hm _ (sen_mem (by rw [HL.out]; exact hlt))
      rw [hM] at e3 e1
      rw [hk] at e1
      rw [hz] at e2
      have HM := hid hM
      have HZ := hid hz
      have hli := fun W => list_any M k mc ma W hk (by omega)
      have HK := hid hk
      clear hM hz hk
      have hBd : Below wr.heap.size wr wr.drew := (Below.refl _ _).drew
      obtain ⟨va, vc, rfl⟩ := owns_shape hown
      go_wp2_with fail
      go_region_held3 (fun w' : World => w'.cell? ⟨b, off + j * 2, none⟩ = some (.slice ma k mc) ∧ w'.cell? ⟨b, off + j * 2 + 1, none⟩ = some (.int .i64 z)) (first | with_reducible exact ⟨cell_grown hBd e1, cell_grown hBd e2⟩ | with_reducible exact ⟨cell_grown hbA e1, cell_grown hbA e2⟩ | with_reducible exact ⟨cell_grown hbL e1, cell_grown hbL e2⟩ | with_reducible exact ⟨y1, y2⟩) (first | (go_at_call 54; refine (hli _ (e3.grown hBd)).mono ?_; rintro e wA ⟨ba, ca, rfl, hIa, hfr, hb⟩; have hbA := hBd.trans (hb.mono hBd.size); have hbL : Below wr.heap.size wr (wA.alloc (.cells #[.slice ba k ca, .int .i64 z] 91)) := hbA.alloc hbA.size _; have hownA := book_owns hown (grown_none hbL) (fun r e => by cases e); have hzA := hbA.size; have hzL := hbL.size; have hzB := hB.size; have hIL := hIa.grown (below_alloc wA (.cells #[.slice ba k ca, .int .i64 z] 91)); clear hb) | (refine step_append_at' rfl _ _ 30 rfl w.heap.size 91 i0 (.agg #[.slice none 0 0, .int .i64 0]) 2 32 Try.underlying30 hi0 hz0 hz1 hz2 rfl (by decide) _ j _ rfl hownA _ 1 1 [.slice ba k ca, .int .i64 z] rfl rfl (pair_new wA _ _ 91) (by simp [Value.oneCell']) (by unfold maxLen; omega) (by omega) (by omega) ?_; intro v' w5 hown' hgrow hloc; have hb5 : Below w.heap.size wr w5 := (hbL.mono hzB).trans ((Below.refl w.heap.size _).grown hgrow (by omega) (fun r e => (hownA.lt r e).1)); have y1 := cell_below hb5 gb e1; have y2 := cell_below hb5 gb e2))
      have hg' : (wA.alloc (.cells #[.slice ba k ca, .int .i64 z] 91)).grownBy w5 (Value.slice va j vc).ownBlock := hgrow
      have hloc' : v'.ownBlock = (Value.slice va j vc).ownBlock ∨ v'.ownBlock = some (wA.alloc (.cells #[.slice ba k ca, .int .i64 z] 91)).heap.size := hloc
      have hsz5 : (wA.alloc (.cells #[.slice ba k ca, .int .i64 z] 91)).heap.size ≤ w5.heap.size := ((Below.refl w.heap.size _).grown hg' (by omega) (fun r e => (hownA.lt r e).1)).size
      have hA : Aside (wA.alloc (.cells #[.slice ba k ca, .int .i64 z] 91)) (Value.slice va j vc) ba := fun ad e => by
        have h1 := hfr ad e
        have h2 : wr.heap.size ≤ ad.block := h1.1
        refine ⟨by have := h1.2; simp; omega, fun e' => ?_⟩
        have := (hown.lt _ e').2
        omega
      have hse := ((HV.out.grown hbL).snoc (k := k) (mc := ca) (by rw [HM.out]; exact HK.out) HZ.out (by rw [HM.out]; exact hIL) hA).push hg' hsz5 hloc'
      have HSE := hid hse
      have hB5 := hB.trans hb5
      clear hg' hloc' hsz5 hA hse hgrow hloc hIL hIa hfr hownA hbL hbA y1 y2 e1 e2 e3
      go_wp2_with fail
      go_roundw
      case rel => exact ⟨j + 1, vs ++ [.slice ba k ca, .int .i64 z], by omega, by go_num, hown', HSE, hB5⟩
      case measure => simp [intOf]; omega
    · have hjn : j = n := by omega
      subst hjn
      obtain ⟨va, vc, rfl⟩ := owns_shape hown
      have hin := text_of_owns HL.out hown HV.out
      go_wp2_with fail
      go_ret
      exact ⟨va, vc, rfl, hin.1, hin.2, hB⟩

end Go.Proofs.Ytohahlnhbppnhaa
