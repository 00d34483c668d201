/- A loop's body that appends to a slice in a box: which blocks are its own. -/
import Derived.Test.YtgapbaelifcifaaR
import Derived.RangeFuncBox
import Derived.OwnWalkIn
import Derived.Maps.AppendAt
namespace Go.Proofs.Ytgapbaelifcifaa
open Go.RowKit

/-- Where the array lies behind an append: where it lay, or in the new block. -/
theorem append_block {P : Program} (w : World) (base : Nat) (t ty e : TypeId) (i : TypeInfo) (z : Value) (size bytes : Nat) (ht : P.underlying t = some (.slice e)) (hi : P.info? e = some i) (hz : i.zero = some z)
    (hsize : i.size = size) (hby : i.bytes = bytes) (v : Value) (n : Nat) (xs : List Value) (hown : w.ownsRow base e size v n xs)
    (a : Addr) (m c : Nat) (news : List Value) (hl : news.length = m * size) (hnews : ∀ j u, news[j]? = some u → w.cell? (a.add j) = some u) (h1 : ∀ u ∈ news, u.oneCell' = true) (h0 : 0 < m)
    (h63 : n + m ≤ maxLen) (hbytes : (n + m) * bytes ≤ 140737488355328) (v' : Value) (w' : World)
    (hr : (Builtin.append_ #[t, t] ty #[v, .slice (some a) m c]).run P w = .ok v' w') : v'.ownBlock = v.ownBlock ∨ v'.ownBlock = some w.heap.size := by
  subst hsize
  subst hby
  have hsmall : n + m ≤ 9223372036854775807 := by simp only [maxLen] at h63; omega
  rcases hown.2 with ⟨rfl, rfl⟩ | ⟨g, cap, cur, rfl, hbg, hg, hnc, hcm, hcs, htake⟩
  · rw [run_append_nil (P := P) w t ty e i z ht hi hz a m c news hl hnews h0 (by omega) (by have hb := hbytes; simp only [Nat.zero_add] at hb; omega)] at hr
    cases hr
    exact .inr rfl
  · by_cases hroom : n + m ≤ cap
    · have hfit : n * i.size + news.length ≤ cur.size := by rw [hl, hcs, ← Nat.add_mul]; exact Nat.mul_le_mul_right _ hroom
      rw [run_append_room (P := P) w t ty e i ht hi g n cap cur hg a m c news hl hnews h1 hroom hfit] at hr
      cases hr
      exact .inl rfl
    · have holds : ∀ j u, xs[j]? = some u → w.cell? ((⟨g, 0, none⟩ : Addr).add j) = some u := hown.cells (g := g) rfl
      rw [run_append_grow (P := P) w t ty e i z ht hi hz ⟨g, 0, none⟩ n cap xs hown.1 holds a m c news hl hnews (by omega) (by omega) (growslice_fits (by omega) hbytes)] at hr
      cases hr
      exact .inr rfl

/-- The append of a slice that the call owns, with where its array lies behind it. -/
theorem wpListIn_append_at {F : Fence} {n : Nat} {P : Program} (w : World) {ops : Array Oper} {rest : List Oper} {o : Oper} {a : Act} {Q : Exit → Act → World → Prop}
    (hg : o.guard = none) (s x : Operand) (t : TypeId) (hop : o.op = Op.call { callee := Callee.builtin Builtin.append, args := #[s, x], argTypes := #[t, t] })
    (base : Nat) (e : TypeId) (i : TypeInfo) (z : Value) (size bytes : Nat) (h1 : P.underlying t = some (.slice e)) (h2 : P.info? e = some i) (h3 : i.zero = some z) (h4 : i.size = size) (h5 : i.bytes = bytes) (h6 : z.cells.size = size) (h7 : 0 < size)
    (v : Value) (k : Nat) (xs : List Value) (hs : a.eval s = v) (hown : w.ownsRow base e size v k xs) (ad : Addr) (m c : Nat) (news : List Value) (hx : a.eval x = .slice (some ad) m c) (hn : news.length = m * size)
    (hc : ∀ j u, news[j]? = some u → w.cell? (ad.add j) = some u) (h1c : ∀ u ∈ news, u.oneCell' = true) (h0 : 0 < m) (b1 : k + m ≤ maxLen) (b2 : (k + m) * bytes ≤ 140737488355328) (b3 : base ≤ w.heap.size)
    (hK : ∀ v' w', w'.ownsRow base e size v' (k + m) (xs ++ news) → w.grownBy w' v.ownBlock → (v'.ownBlock = v.ownBlock ∨ v'.ownBlock = some w.heap.size) → wpListIn F n P ops Q rest (a.put o.dst v') w') :
    wpListIn F n P ops Q (o :: rest) a w := by
  refine wpListIn_plain hg fun K hK' => ?_
  obtain ⟨v', w', hrun, r1, r2, _⟩ := run_append_own (P := P) w base t o.type e i z size bytes h1 h2 h3 h4 h5 h6 h7 v k xs hown ad m c news hn hc h1c b1 b2 b3
  have r4 := append_block w base t o.type e i z size bytes h1 h2 h3 h4 h5 v k xs hown ad m c news hn hc h1c h0 b1 b2 v' w' hrun
  refine ⟨by simp [Oper.about, hop, resolve, Target.leads, Sem.run_pure], ?_⟩
  rw [Oper.semAt_plain F _ _ (by rw [hop]; intro c hc'; cases hc')]
  simp only [execOp, hop, resolve, invoke, builtin, Sem.run_bind, Sem.run_pure, Result.andThen_ok, List.map_toArray, List.map_cons, List.map_nil, hs, hx, hrun]
  exact hK' _ _ (hK v' w' r1 r2 r4)

/-- The blocks that a body may write which appends to the slice in box B: the box, and the slice's array. -/
def Mine (B : Nat) (W : World) (k : Nat) : Prop := k = B ∨ ∃ v, W.cell? ⟨B, 0, none⟩ = some v ∧ v.ownBlock = some k

theorem mine_iff {B : Nat} {W : World} {t : TypeId} {v : Value} (h : Boxed W B t v) (k : Nat) : Mine B W k ↔ k = B ∨ v.ownBlock = some k := by
  unfold Mine
  rw [h.cell]
  constructor
  · rintro (e | ⟨v', e, h⟩)
    · exact .inl e
    · cases e; exact .inr h
  · rintro (e | h)
    · exact .inl e
    · exact .inr ⟨v, rfl, h⟩

theorem mine_ok {β : Type} {n₀ B B0 : Nat} {t e : TypeId} {size : Nat} {J : β → World → Prop} (hJ : ∀ s W, J s W → ∃ v n xs, Boxed W B t v ∧ W.ownsRow n₀ e size v n xs) : MineOk B0 J (Mine B) := by
  constructor
  · intro s W k hs hm
    obtain ⟨v, n, xs, hb, hr⟩ := hJ s W hs
    rcases (mine_iff hb k).1 hm with rfl | h
    · exact hb.lt
    · exact (hr.lt k h).2
  · intro s W W' row k hs hg hr hm
    obtain ⟨v, n, xs, hb, hrow⟩ := hJ s W hs
    have hb' : Boxed W' B t v := hb.kept hg (fun e' => by
      obtain ⟨_, o, ho, hc⟩ := hr B e'.symm
      rw [show W.heap[B]? = _ from hb] at ho; cases ho; cases hc)
    exact (mine_iff hb k).2 ((mine_iff hb' k).1 hm)

/-- Behind the append and the store into the box: all other blocks are kept. -/
theorem mine_appended {W w1 : World} {n₀ B : Nat} {t e : TypeId} {size : Nat} {v v' : Value} {k m : Nat} {xs ys : List Value} {tmp : Obj}
    (hv : Boxed W B t v) (hte : t ≠ e) (hrow : W.ownsRow n₀ e size v k xs) (hn₀ : n₀ ≤ W.heap.size) (hB : n₀ ≤ B)
    (hown' : w1.ownsRow n₀ e size v' m ys) (hgrow : (W.alloc tmp).grownBy w1 v.ownBlock) (hat : v'.ownBlock = v.ownBlock ∨ v'.ownBlock = some (W.alloc tmp).heap.size) :
    Keep (Mine B) W (w1.setCell ⟨B, 0, none⟩ v') := by
  obtain ⟨_, h2, _, _, _⟩ := hv.appended hte hrow hn₀ hB hown' hgrow
  have hs := hgrow.size
  rw [World.size_alloc] at hs hat
  refine ⟨by rw [World.setCell]; simp; omega, fun j hj hm => ?_, fun j hj hm hm' => ?_⟩
  · rw [mine_iff hv] at hm
    rw [Below.heap_setCell _ _ _ _ (fun e => hm (.inl e))]
    rw [hgrow.block j (by rw [World.size_alloc]; omega) (fun e => hm (.inr e.symm)), Below.heap_alloc _ _ _ hj]
  · rw [mine_iff hv] at hm
    rcases (mine_iff h2 j).1 hm' with e | e
    · exact hm (.inl e)
    · rcases hat with h | h
      · exact hm (.inr (h ▸ e))
      · rw [e] at h; cases h; omega

/-- Numbers two by two. -/
def flat2 : List (Int × Int) → List Value
  | [] => []
  | x :: xs => .int .i64 x.1 :: .int .i64 x.2 :: flat2 xs

theorem flat2_append (xs ys : List (Int × Int)) : flat2 (xs ++ ys) = flat2 xs ++ flat2 ys := by
  induction xs with
  | nil => rfl
  | cons x xs ih => simp [flat2, ih]

theorem flat2_length (xs : List (Int × Int)) : (flat2 xs).length = xs.length * 2 := by
  induction xs with
  | nil => rfl
  | cons x xs ih => simp [flat2, ih]; omega

theorem flat2_get (xs : List (Int × Int)) : ∀ i, i < xs.length → (flat2 xs)[i * 2]? = some (.int .i64 (xs.getD i (0, 0)).1) ∧ (flat2 xs)[i * 2 + 1]? = some (.int .i64 (xs.getD i (0, 0)).2) := by
  induction xs with
  | nil => intro i h; simp at h
  | cons x xs ih =>
    intro i h
    cases i with
    | zero => simp [flat2]
    | succ i =>
      have := ih i (by simpa using h)
      rw [show (i + 1) * 2 = i * 2 + 2 from by omega]
      simpa [flat2] using this

end Go.Proofs.Ytgapbaelifcifaa
