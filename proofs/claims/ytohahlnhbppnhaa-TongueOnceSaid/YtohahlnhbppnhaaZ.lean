/- Tongue: from when to when the interpreter may be done. -/
import Derived.Test.YtohahlnhbppnhaaY
import Derived.Deep.RegionHeld3
namespace Go.Proofs.Ytohahlnhbppnhaa
open Go.RowKit
set_option linter.unusedSimpArgs false
set_option linter.unusedVariables false

/-- An append to a row of the call's own, at a step of a region. -/
theorem step_append_at {P : Program} {w : World} {ops : Array Oper} {o : Oper} {a : Act} {K : Act → World → Prop} {Q : Exit → Act → World → Prop} {E : Prop} (hgd : o.guard = none) (s x : Operand) (t : TypeId)
    (ho : o.op = .call { callee := .builtin .append, args := #[s, x], argTypes := #[t, t] })
    (base : Nat) (e : TypeId) (i : TypeInfo) (z : Value) (size bytes : Nat) (ht : P.underlying t = some (.slice e)) (hi : P.info? e = some i) (hz : i.zero = some z)
    (hsize : i.size = size) (hby : i.bytes = bytes) (hzs : z.cells.size = size) (hsz : 0 < size)
    (v : Value) (n : Nat) (xs : List Value) (hs : a.eval s = v) (hown : w.ownsRow base e size v n xs)
    (ad : Addr) (m c : Nat) (news : List Value) (hx : a.eval x = .slice (some ad) m c) (hl : news.length = m * size) (hnews : ∀ j u, news[j]? = some u → w.cell? (ad.add j) = some u) (h1 : ∀ u ∈ news, u.oneCell' = true)
    (h63 : n + m ≤ maxLen) (hbytes : (n + m) * bytes ≤ 140737488355328) (hbase : base ≤ w.heap.size)
    (h : ∀ v' w', w'.ownsRow base e size v' (n + m) (xs ++ news) → w.grownBy w' v.ownBlock → K (a.put o.dst v') w') :
    if Region.wanted o (yielded ops a.tmps) = true then Oper.wp P o a w K Q else E := by
  have hw : Region.wanted o (yielded ops a.tmps) = true := by simp [Region.wanted, hgd]
  rw [if_pos hw]
  obtain ⟨v', w', hr, h2, h3, -, -⟩ := run_append_own_at (P := P) w base t o.type e i z size bytes ht hi hz hsize hby hzs hsz v n xs hown ad m c news hl hnews h1 h63 hbytes hbase
  unfold Oper.wp
  simp [execOp, ho, resolve, invoke, builtin, hs, hx, hr, Result.andThen]
  exact h v' w' h2 h3

def flatP : List (Int × Int) → List Value
  | [] => []
  | r :: l => .int .i64 r.1 :: .int .i64 r.2 :: flatP l

theorem flatP_append (l m : List (Int × Int)) : flatP (l ++ m) = flatP l ++ flatP m := by
  induction l with
  | nil => rfl
  | cons x l ih => simp [flatP, ih]

theorem flatP_get (l : List (Int × Int)) : ∀ i, i < l.length → (flatP l)[i * 2]? = some (.int .i64 (l.getD i (0, 0)).1) ∧ (flatP l)[i * 2 + 1]? = some (.int .i64 (l.getD i (0, 0)).2) := by
  induction l with
  | nil => intro i hi; simp at hi
  | cons x l ih =>
    intro i hi
    cases i with
    | zero => exact ⟨rfl, rfl⟩
    | succ i =>
      have := ih i (by simpa using hi)
      rw [Nat.succ_mul]
      exact this

theorem pairs_of_owns {W : World} {base : Nat} {e : TypeId} {a : Option Addr} {cap : Nat} {T : List (Int × Int)} (h : W.ownsRow base e 2 (.slice a T.length cap) T.length (flatP T)) : PairsAt W a T := by
  intro i hi
  rcases h.2 with ⟨_, h0⟩ | ⟨g, cap', cur, hv, _, hg, _⟩
  · omega
  · simp only [Value.slice.injEq] at hv
    obtain ⟨rfl, -, -⟩ := hv
    have hc := h.cells (g := g) rfl
    have hadd : ∀ j, (⟨g, 0, none⟩ : Addr).add j = ⟨g, 0 + j, none⟩ := fun j => by unfold Addr.add; split <;> simp_all
    obtain ⟨e1, e2⟩ := flatP_get T i hi
    have c1 := hc _ _ e1
    have c2 := hc _ _ e2
    rw [hadd] at c1 c2
    exact ⟨g, 0, rfl, c1, by rw [Nat.add_assoc]; exact c2⟩

theorem pair_new (w : World) (v0 v1 : Value) (t : TypeId) : ∀ j u, [v0, v1][j]? = some u → (w.alloc (.cells #[v0, v1] t)).cell? ((⟨w.heap.size, 0, none⟩ : Addr).add j) = some u := by
  intro j u hj
  match j, hj with
  | 0, hj => simp at hj; subst hj; simp [Addr.add]
  | 1, hj => simp at hj; subst hj; simp [Addr.add]
  | j + 2, hj => simp at hj

theorem Try.info85 : (Try.prog.info? 85).map (fun i => (i.zero, i.size, i.bytes)) = some (some (.agg #[.int .i64 0, .int .i64 0]), 2, 16) := by kernel_rfl

/-- From when to when the interpreter may be done with each sentence. -/
def timesN (s : Spoken) (n : Nat) : List (Int × Int) := (List.range n).map fun j => (freeN s.starts (lows s) s.lag (j + 1), freeN s.starts (highs s) s.lag (j + 1))

theorem timesN_length (s : Spoken) (n : Nat) : (timesN s n).length = n := by simp [timesN]

theorem timesN_succ (s : Spoken) (n : Nat) : timesN s (n + 1) = timesN s n ++ [(freeN s.starts (lows s) s.lag (n + 1), freeN s.starts (highs s) s.lag (n + 1))] := by
  unfold timesN
  rw [List.range_succ]
  simp

set_option maxRecDepth 100000 in
set_option maxHeartbeats 1000000 in
theorem times_any (s : Spoken) (hv : valP s = true) (n nc mc : Nat) (sa na : Option Addr) (w : World) (h1 : s.starts.length = n) (hS : IntsAt w sa s.starts) (hN : PairsAt w na s.needs) :
    Calls Try.prog 70 #[.agg #[.slice sa n nc, .int .i64 s.lag, .slice na n mc]] w fun e w' => ∃ a cap, e = .returned (.slice a n cap) ∧ PairsAt w' a (timesN s n) ∧ Below w.heap.size w w' := by
  have hn : n ≤ 20 := by rw [← h1]; exact (valP_parts hv).1
  obtain ⟨i0, hi0, hz0, hz1, hz2⟩ := info_parts Try.info85
  obtain ⟨pb, hpb⟩ : ∃ q, q = w.heap.size := ⟨_, rfl⟩
  obtain ⟨W0, hW0⟩ : ∃ X, X = w.alloc (.cells #[.slice sa n nc, .int .i64 s.lag, .slice na n mc] 78) := ⟨_, rfl⟩
  have hB0 : Below w.heap.size w W0 := by rw [hW0]; exact below_alloc _ _
  have p0 : W0.cell? ⟨pb, 0, none⟩ = some (.slice sa n nc) := by rw [hW0, hpb]; simp [go_sem]
  have p1 : W0.cell? ⟨pb, 1, none⟩ = some (.int .i64 s.lag) := by rw [hW0, hpb]; simp [go_sem]
  have p2 : W0.cell? ⟨pb, 2, none⟩ = some (.slice na n mc) := by rw [hW0, hpb]; simp [go_sem]
  replace hS := hS.grown hB0
  replace hN := hN.grown hB0
  have h100 := fun W (hb : Below W0.heap.size W0 W) => done100 s hv n nc mc sa na W h1 (hS.grown hb) (hN.grown hb)
  have h101 := fun W (hb : Below W0.heap.size W0 W) => done101 s hv n nc mc sa na W h1 (hS.grown hb) (hN.grown hb)
  clear hS hN hv h1
  have hBd : Below W0.heap.size W0 W0.drew := (Below.refl _ _).drew
  have hsu := timesN_succ s
  have HL := hid (timesN_length s)
  obtain ⟨g, hg⟩ : ∃ g, s.lag = g := ⟨_, rfl⟩
  simp only [hg] at hsu
  have HSU := hid hsu
  rw [hg] at p1 hW0
  simp only [hg] at h100 h101 ⊢
  clear hg hsu
  go_enter Try.func70, Try.ntmps70
  go_wp2_with fail
  rw [← hW0, ← hpb]
  clear hpb hW0
  go_region_held3 (fun w' : World => w'.cell? ⟨pb, 0, none⟩ = some (.slice sa n nc) ∧ w'.cell? ⟨pb, 1, none⟩ = some (.int .i64 g) ∧ w'.cell? ⟨pb, 2, none⟩ = some (.slice na n mc)) (first | with_reducible exact ⟨cell_grown hBd p0, cell_grown hBd p1, cell_grown hBd p2⟩ | with_reducible exact ⟨cell_grown hbA p0, cell_grown hbA p1, cell_grown hbA p2⟩ | with_reducible exact ⟨cell_grown hbB p0, cell_grown hbB p1, cell_grown hbB p2⟩) (first | (go_at_call 99; first | (refine (h101 _ hbA).mono ?_; rintro e wB ⟨a2, k2, rfl, i2, hb⟩; replace i1 := i1.grown hb; have hbB := hbA.trans (hb.mono hbA.size); clear hb) | (refine (h100 _ hbA).mono ?_; rintro e wB ⟨a1, k1, rfl, i1, hb⟩; replace i2 := i2.grown hb; have hbB := hbA.trans (hb.mono hbA.size); clear hb) | (refine (h100 _ hBd).mono ?_; rintro e wA ⟨a1, k1, rfl, i1, hb⟩; have hbA := hBd.trans (hb.mono hBd.size); clear hb) | (refine (h101 _ hBd).mono ?_; rintro e wA ⟨a2, k2, rfl, i2, hb⟩; have hbA := hBd.trans (hb.mono hBd.size); clear hb)))
  have hb0 : Below w.heap.size w wB := hB0.trans (hbB.mono hB0.size)
  replace p0 := cell_grown hbB p0
  have gp := lt_of_cell p0
  clear hbA hBd hbB h100 h101 p1 p2 hB0
  go_wp2_with fail
  go_loopw [5, 6, 14] (fun v _ i wr => ∃ j : Nat, j ≤ n ∧ i = .int .i64 j ∧ wr.ownsRow wB.heap.size 85 2 v j (flatP (timesN s j)) ∧ Below wB.heap.size wB wr) (fun _ _ i _ => n - (intOf i).toNat)
  case atStart => exact ⟨0, Nat.zero_le _, rfl, World.ownsRow_nil _ _ _ _, Below.refl _ _⟩
  case round =>
    obtain ⟨j, hj, rfl, hown, hB⟩ := hrel
    by_cases hlt : j < n
    · have hlt' : (j : Int) < n := by omega
      obtain ⟨b1, off1, ea, c1⟩ := i1 j (by rw [doneN_length]; exact hlt)
      obtain ⟨b2, off2, eb, c2⟩ := i2 j (by rw [doneN_length]; exact hlt)
      rw [doneN_get _ _ _ _ _ hlt] at c1 c2
      subst ea
      subst eb
      have hvs := HSU.out j
      generalize freeN s.starts (lows s) g (j + 1) = x at c1 hvs
      generalize freeN s.starts (highs s) g (j + 1) = y at c2 hvs
      have HV := hid hvs
      clear hvs
      have g1 := lt_of_cell c1
      have g2 := lt_of_cell c2
      replace c1 := cell_grown hB c1
      replace c2 := cell_grown hB c2
      have q1 := lt_of_cell c1
      have q2 := lt_of_cell c2
      have hBr : Below wr.heap.size wr wr.drew := (Below.refl _ _).drew
      have hzB := hB.size
      have hbl : Below wr.heap.size wr (wr.alloc (.cells #[.int .i64 x, .int .i64 y] 85)).drew := (below_alloc _ _).drew
      have hownA := book_owns hown (grown_none hbl) (fun r e => by cases e)
      obtain ⟨va, vc, rfl⟩ := owns_shape hown
      go_wp2_with fail
      go_region_held3 (fun w' : World => w'.cell? ⟨b1, off1 + j, none⟩ = some (.int .i64 x) ∧ w'.cell? ⟨b2, off2 + j, none⟩ = some (.int .i64 y)) (first | with_reducible exact ⟨cell_grown hBr c1, cell_grown hBr c2⟩ | with_reducible exact ⟨cell_grown hbl c1, cell_grown hbl c2⟩ | with_reducible exact ⟨z1, z2⟩) (first | (refine step_append_at rfl _ _ 74 rfl wB.heap.size 85 i0 (.agg #[.int .i64 0, .int .i64 0]) 2 16 Try.underlying74 hi0 hz0 hz1 hz2 rfl (by decide) _ j _ rfl hownA _ 1 1 [.int .i64 x, .int .i64 y] rfl rfl (pair_new wr _ _ 85) (by simp [Value.oneCell']) (by unfold maxLen; omega) (by omega) (by have := hbl.size; omega) ?_; intro v' w5 hown' hgrow; have hb5 : Below wB.heap.size wr w5 := (hbl.mono hzB).trans ((Below.refl wB.heap.size _).grown hgrow (by have := hbl.size; omega) (fun r e => (hownA.lt r e).1)); have z1 := cell_below hb5 g1 c1; have z2 := cell_below hb5 g2 c2))
      go_wp2_with fail
      go_roundw
      case rel => exact ⟨j + 1, by omega, by go_num, by rw [HV.out, flatP_append]; exact hown', hB.trans hb5⟩
      case measure => simp [intOf]; omega
    · have hjn : j = n := by omega
      subst hjn
      obtain ⟨va, vc, rfl⟩ := owns_shape hown
      have hin := pairs_of_owns (T := timesN s j) (a := va) (cap := vc) (W := wr) (e := 85) (base := wB.heap.size) (by rw [HL.out]; exact hown)
      go_wp2_with fail
      go_ret
      exact ⟨va, vc, rfl, hin, hb0.trans (hB.mono hb0.size)⟩

end Go.Proofs.Ytohahlnhbppnhaa
