/- The iterator over a sitting's stretches: what it hands over. -/
import Derived.Test.YtgapbaelifcifaaD
import Derived.Test.YtgapbaelifcifaaU
import Derived.RangeFuncBox
import Derived.RangeFuncLeaves
import Derived.Shelf.Abstract
import Derived.OwnWalkIn
import Derived.TacticsInMore
import Derived.LoopNIn
import Derived.LoopIn
namespace Go.Proofs.Ytgapbaelifcifaa
open Go.RowKit Go.Shelf

attribute [local go_sem] Oper.semAt_some

/-- The stretches from a second on, if the pauses from there on are these. -/
def strs (len : Int) : Int → List (Int × Int) → List (Int × Int)
  | f, [] => if f < len then [(f, len)] else []
  | f, p :: ps => if f < p.1 then (f, p.1) :: strs len p.2 ps else strs len p.2 ps

def encSp (x : Int × Int) : Array Value := #[.agg #[.int .i64 x.1, .int .i64 x.2]]

theorem strs_drop {len f : Int} {L : List (Int × Int)} {k : Nat} (hk : k < L.length) :
    strs len f (L.drop k) = if f < (L.getD k (0, 0)).1 then (f, (L.getD k (0, 0)).1) :: strs len (L.getD k (0, 0)).2 (L.drop (k + 1)) else strs len (L.getD k (0, 0)).2 (L.drop (k + 1)) := by
  rw [List.drop_eq_getElem_cons hk]
  simp [strs, List.getElem?_eq_getElem hk]

variable {F : Fence} {n : Nat}

set_option maxRecDepth 100000 in
set_option maxHeartbeats 1000000 in
theorem stretches1_in (hF : ∀ f, F.fn f) (hro : F.round = none) (hn : 1 ≤ n) (l bs m cap : Nat) (a : Option Addr) (len : Int) (L : List (Int × Int)) (hL : L.length = m) (hm : m ≤ maxLen)
    (J Jx : List (Int × Int) → World → Prop) (M : World → Nat → Prop) (W : World) (hJ : OwnFrom W.heap.size J) (hM : MineOk W.heap.size J M)
    (hbs : ¬ M W bs) (hsb : 0 < m → ∀ b off, a = some ⟨b, off, none⟩ → ¬ M W b)
    (hY : ∀ pre x rest W1, strs len 0 L = pre ++ x :: rest → J pre W1 → YieldAt F (n - 1) Try.prog l (encSp x) W1 fun e W' =>
      (e = .returned (.bool true) ∧ J (pre ++ [x]) W' ∧ Keep M W1 W' ∧ KeepsFrom W.heap.size W1 W') ∨ (e = .returned (.bool false) ∧ Jx (pre ++ [x]) W' ∧ KeepsFrom W.heap.size W1 W'))
    (c0 : W.cell? ⟨bs, 0, none⟩ = some (.int .i64 len)) (c1 : W.cell? ⟨bs, 1, none⟩ = some (.slice a m cap)) (hS : Spans W a L) (h0 : J [] W) :
    CallsIn F n Try.prog 88 #[.func (.yield l) #[] #[], .pointer (some ⟨bs, 0, none⟩)] W fun e W' => (∃ v, e = .returned v) ∧
      (J (strs len 0 L) W' ∨ ∃ pre, pre <+: strs len 0 L ∧ Jx pre W') := by
  have hm' := hm
  unfold maxLen at hm'
  have HL := hid hL
  clear hL
  refine callsIn_of_wp Try.func88 rfl (hF _) ?_ hro
  simp only [Try.ntmps88, List.size_toArray, List.length_cons, List.length_nil, Nat.reduceAdd, Nat.reduceSub, Array.replicate_succ, Array.replicate_zero, List.push_toArray, List.append_toArray, List.nil_append, List.cons_append]
  have w0 := lt_of_cell c0
  gi_wp2
  gi_loopw [3, 9] (fun f i wr => ∃ (k : Nat) (from_ : Int) (pre : List (Int × Int)), k ≤ m ∧ i = .int .i64 k ∧ f = .int .i64 from_ ∧ Hid (strs len 0 L = pre ++ strs len from_ (L.drop k)) ∧ J pre wr ∧ Keep M W wr)
    (fun _ i _ => m - (intOf i).toNat)
  case atStart => exact ⟨0, 0, [], Nat.zero_le _, rfl, rfl, rfl, h0, Keep.refl _ _⟩
  case round =>
    obtain ⟨k, from_, pre, hk, rfl, rfl, HE, hj, hB⟩ := hrel
    have d0 := hB.cell hbs c0
    have d1 := hB.cell hbs c1
    have db := lt_of_cell d0
    have HM := hid (hB.other bs w0 hbs)
    by_cases hlt : k < m
    · obtain ⟨b, off, ha, e1, e2⟩ := hS k (by rw [HL.out]; exact hlt)
      have hE := strs_drop (f := from_) (len := len) (L := L) (k := k) (by rw [HL.out]; exact hlt)
      generalize L.getD k (0, 0) = x at e1 e2 hE
      obtain ⟨x1, x2⟩ := x
      simp only at e1 e2 hE
      have hb := hsb (by omega) b off ha
      subst ha
      have g1 := hB.cell hb e1
      have g2 := hB.cell hb e2
      have gb := lt_of_cell g1
      have hKa := hM.alloc hj (.cells #[.int .i64 x1, .int .i64 x2] 82)
      have HF := hid (hM.fresh hj (.cells #[.int .i64 x1, .int .i64 x2] 82))
      by_cases hf : from_ < x1
      · rw [if_pos hf] at hE
        have HE1 : Hid (strs len 0 L = pre ++ (from_, x1) :: strs len x2 (L.drop (k + 1))) := by rw [← hE]; exact HE.out
        clear hE HE
        obtain ⟨fn, tmps, assign, body, hy, hR⟩ := hY pre (from_, x1) _ (wr.alloc (.cells #[.int .i64 x1, .int .i64 x2] 82)) HE1.out (hJ.alloc _ hj)
        dsimp only [encSp] at hy
        have hp1 : (wr.alloc (.cells #[.int .i64 x1, .int .i64 x2] 82)).cell? ⟨wr.heap.size, 1, none⟩ = some (.int .i64 x2) := by simp
        gi_wp2
        refine hR.mono ?_
        rintro e W3 (⟨rfl, hJ3, hk3, _⟩ | ⟨rfl, hJx3, _⟩)
        · have hB3 : Keep M W W3 := hB.trans (hKa.trans hk3)
          have q0 := hB3.cell hbs c0
          have qp := hk3.cell HF.out hp1
          gi_wp2
          go_roundw
          case rel => exact ⟨k + 1, x2, pre ++ [(from_, x1)], by omega, by go_num, rfl, hid (by rw [HE1.out]; simp), hJ3, hB3⟩
          case measure => simp [intOf]; omega
        · gi_wp2
          refine bodyPost_ret (results_none rfl _ _ _) rfl ?_
          exact ⟨⟨_, rfl⟩, .inr ⟨pre ++ [(from_, x1)], ⟨strs len x2 (L.drop (k + 1)), by rw [HE1.out]; simp⟩, hJx3⟩⟩
      · rw [if_neg hf] at hE
        have HE1 : Hid (strs len 0 L = pre ++ strs len x2 (L.drop (k + 1))) := by rw [← hE]; exact HE.out
        clear hE HE
        gi_wp2
        go_roundw
        case rel => exact ⟨k + 1, x2, pre, by omega, by go_num, rfl, HE1, hJ.alloc _ hj, hB.trans hKa⟩
        case measure => simp [intOf]; omega
    · have hE : strs len 0 L = pre ++ strs len from_ [] := by
        have := HE.out
        rwa [List.drop_eq_nil_of_le (by rw [HL.out]; omega)] at this
      clear HE
      by_cases hf : from_ < len
      · have HE1 : Hid (strs len 0 L = pre ++ (from_, len) :: []) := hid (by rw [hE]; simp [strs, hf])
        clear hE
        obtain ⟨fn, tmps, assign, body, hy, hR⟩ := hY pre (from_, len) _ wr HE1.out hj
        dsimp only [encSp] at hy
        gi_wp2
        refine hR.mono ?_
        rintro e W3 (⟨rfl, hJ3, hk3, _⟩ | ⟨rfl, hJx3, _⟩)
        · gi_wp2
          go_end0
          exact ⟨⟨_, rfl⟩, .inl (by rw [HE1.out]; exact hJ3)⟩
        · gi_wp2
          go_end0
          exact ⟨⟨_, rfl⟩, .inr ⟨_, by rw [HE1.out]; exact List.prefix_rfl, hJx3⟩⟩
      · have HE1 : Hid (strs len 0 L = pre) := hid (by rw [hE]; simp [strs, hf])
        clear hE
        gi_wp2
        go_end0
        exact ⟨⟨_, rfl⟩, .inl (by rw [HE1.out]; exact hj)⟩

theorem stretches_seq (hF : ∀ f, F.fn f) (hro : F.round = none) (hn : 1 ≤ n) (bs m cap : Nat) (a : Option Addr) (len : Int) (L : List (Int × Int)) (hL : L.length = m) (hm : m ≤ maxLen) (w : World)
    (c0 : w.cell? ⟨bs, 0, none⟩ = some (.int .i64 len)) (c1 : w.cell? ⟨bs, 1, none⟩ = some (.slice a m cap)) (hS : Spans w a L) :
    SeqO F n Try.prog 88 #[.pointer (some ⟨bs, 0, none⟩)] encSp (fun k => k = bs ∨ 0 < m ∧ ∃ off, a = some ⟨k, off, none⟩) (strs len 0 L) w := fun l J Jx M W hW hJ _ hM hres hY h0 =>
  stretches1_in hF hro hn l bs m cap a len L hL hm J Jx M W hJ hM (hres _ (.inl rfl)) (fun h0 b off e => hres b (.inr ⟨h0, off, e⟩)) hY (cell_grown hW c0) (cell_grown hW c1) (hS.grown hW) h0

end Go.Proofs.Ytgapbaelifcifaa
