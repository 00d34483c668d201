/- Tongue: the iterators over the steps that may come next at a place, and over all places: what they hand over. Tongue: the iterator over all places: what it hands over. -/
import Derived.Test.YtohahlnhbppnhaaE
import Derived.Test.YtohahlnhbppnhaaF
import Derived.Test.YtohahlnhbppnhaaG
import Derived.RangeFuncBox
import Derived.RangeFuncLeaves
import Derived.Shelf.Abstract
import Derived.OwnWalkIn
import Derived.TacticsInMore
import Derived.LoopNIn
import Derived.LoopIn
namespace Go.Proofs.Ytohahlnhbppnhaa
open Go.RowKit Go.Shelf
set_option linter.unusedSimpArgs false
set_option linter.unusedVariables false

attribute [local go_sem] Oper.semAt_some

/-- The steps, the least one first. -/
def kinds : List (Nat × Nat) := [(2, 1), (1, 2), (1, 1), (1, 0), (0, 1)]

/-- May the step come next, at a place? -/
def fitsM (nl nr i k : Nat) (s : Nat × Nat) : Bool := decide (i + s.1 ≤ nl) && decide (k + s.2 ≤ nr)

/-- The steps that may come next. -/
def movesM (nl nr i k : Nat) : List (Nat × Nat) := kinds.filter (fitsM nl nr i k)

theorem kinds_le : ∀ m, m < 5 → (kinds.getD m (0, 0)).1 ≤ 2 ∧ (kinds.getD m (0, 0)).2 ≤ 2 := by decide

theorem kinds_drop : ∀ m, m < 5 → kinds.drop m = kinds.getD m (0, 0) :: kinds.drop (m + 1) := by decide

/-- A step that is taken, as a value. -/
def encMove (la : Option Addr) (cl : Nat) (ra : Option Addr) (cr i k : Nat) (x : Nat × Nat) : Array Value :=
  #[.agg #[.int .i64 (x.1 : Int), .int .i64 (x.2 : Int), .slice (subA la cl i 2) x.1 (cl - i), .int .u8 0, .int .i64 (i : Int), .slice (subA ra cr k 2) x.2 (cr - k), .int .u8 1, .int .i64 (k : Int)]]

theorem grown_none {W W' : World} (h : Below W.heap.size W W') : W.grownBy W' none := ⟨h.os, h.tape, h.output, h.size, fun k hk _ => h.block k hk⟩

theorem MineOk.below {β : Type} {B : Nat} {J : β → World → Prop} {M : World → Nat → Prop} (h : MineOk B J M) {s : β} {W W' : World} (hs : J s W) (hb : Below W.heap.size W W') : Keep M W W' :=
  ⟨hb.size, fun k hk _ => hb.block k hk, fun k _ hm hm' => hm (h.grown s W _ none k hs (grown_none hb) (fun r e => by cases e) hm')⟩

theorem OwnFrom.below {β : Type} {B : Nat} {J : β → World → Prop} (h : OwnFrom B J) {s : β} {W W' : World} (hs : J s W) (hb : Below W.heap.size W W') : J s W' :=
  h s W W' none hs (grown_none hb) (fun r e => by cases e)

theorem step_row (w : World) : (w.alloc (.cells #[.int .i64 2, .int .i64 1, .int .i64 1, .int .i64 2, .int .i64 1, .int .i64 1, .int .i64 1, .int .i64 0, .int .i64 0, .int .i64 1] 36)).rowIs w.heap.size 36 10
    (fun j => .int .i64 ((if j % 2 = 0 then (kinds.getD (j / 2) (0, 0)).1 else (kinds.getD (j / 2) (0, 0)).2 : Nat) : Int)) :=
  World.rowIs_alloc w _ 36 _ (fun i hi => by
    have h : i < 10 := hi
    iterate 10 (rcases i with _ | i; · rfl)
    omega)

variable {F : Fence} {n : Nat}

set_option maxRecDepth 100000 in
set_option maxHeartbeats 2000000 in
theorem next1_in (hF : ∀ f, F.fn f) (hro : F.round = none) (hd : F.depth = none) (hc : ∀ {m f args w R}, Calls Try.prog f args w R → CallsIn F m Try.prog f args w R) (hn : 1 ≤ n) (l bp ba nl cl nr cr i k cn cc : Nat) (la ra ca : Option Addr) (hnl : nl ≤ 1000) (hnr : nr ≤ 1000) (hcl : nl ≤ cl) (hcr : nr ≤ cr) (hi : i ≤ 1000) (hk : k ≤ 1000)
    (J Jx : List (Nat × Nat) → World → Prop) (M : World → Nat → Prop) (W : World) (hJ : OwnFrom W.heap.size J) (hM : MineOk W.heap.size J M) (hbp : ¬ M W bp) (hba : ¬ M W ba)
    (hY : ∀ pre x rest W1, movesM nl nr i k = pre ++ x :: rest → J pre W1 → YieldAt F (n - 1) Try.prog l (encMove la cl ra cr i k x) W1 fun e W' =>
      (e = .returned (.bool true) ∧ J (pre ++ [x]) W' ∧ Keep M W1 W' ∧ KeepsFrom W.heap.size W1 W') ∨ (e = .returned (.bool false) ∧ Jx (pre ++ [x]) W' ∧ KeepsFrom W.heap.size W1 W' ∧ KeepC M W1 W'))
    (p0 : W.cell? ⟨bp, 0, none⟩ = some (.slice la nl cl))
    (p1 : W.cell? ⟨bp, 1, none⟩ = some (.int .u8 0))
    (p2 : W.cell? ⟨bp, 2, none⟩ = some (.int .i64 0))
    (p3 : W.cell? ⟨bp, 3, none⟩ = some (.slice ra nr cr))
    (p4 : W.cell? ⟨bp, 4, none⟩ = some (.int .u8 1))
    (p5 : W.cell? ⟨bp, 5, none⟩ = some (.int .i64 0))
    (p6 : W.cell? ⟨bp, 6, none⟩ = some (.slice ca cn cc))
    (a0 : W.cell? ⟨ba, 0, none⟩ = some (.int .i64 (i : Int))) (a1 : W.cell? ⟨ba, 1, none⟩ = some (.int .i64 (k : Int))) (h0 : J [] W) :
    CallsIn F n Try.prog 112 #[.func (.yield l) #[] #[], .pointer (some ⟨bp, 0, none⟩), .pointer (some ⟨ba, 0, none⟩)] W fun e W' => (∃ v, e = .returned v) ∧
      (J (movesM nl nr i k) W' ∨ ∃ pre, pre <+: movesM nl nr i k ∧ Jx pre W') := by
  have hend : ∀ W, CallsIn F (n - 1) Try.prog 84 #[.agg #[.slice la nl cl, .int .u8 0, .int .i64 0, .slice ra nr cr, .int .u8 1, .int .i64 0, .slice ca cn cc]] W fun e w' => e = .returned (.agg #[.int .i64 (nl : Int), .int .i64 (nr : Int)]) ∧ Below W.heap.size W w' := fun W => hc (by
    have := pend_any 0 1 nl cl 0 nr cr 0 la ra ca cn cc W hnl hnr (by omega) (by omega)
    simpa only [Nat.zero_add, Int.natCast_zero, Int.ofNat_zero] using this)
  refine callsIn_of_wp Try.func112 rfl (hF _) ?_ hro
  simp only [Try.ntmps112, List.size_toArray, List.length_cons, List.length_nil, Nat.reduceAdd, Nat.reduceSub, Array.replicate_succ, Array.replicate_zero, List.push_toArray, List.append_toArray, List.nil_append, List.cons_append]
  have wp := lt_of_cell p0
  have wa := lt_of_cell a0
  gi_wp2_with (gi_at_call 84; refine (hend _).mono ?_; rintro e w1 ⟨rfl, hb1⟩)
  have hend' := hend
  clear hend hend'
  obtain ⟨W2, hW2⟩ : ∃ X, X = (w1.alloc (.cells #[.int .i64 (nl : Int), .int .i64 (nr : Int)] 150)).alloc (.cells #[.int .i64 2, .int .i64 1, .int .i64 1, .int .i64 2, .int .i64 1, .int .i64 1, .int .i64 1, .int .i64 0, .int .i64 0, .int .i64 1] 36) := ⟨_, rfl⟩
  have hb2 : Below w1.heap.size w1 W2 := by rw [hW2]; exact ((Below.refl _ w1).alloc (Nat.le_refl _) _).alloc (by simp) _
  have hbW : Below W.heap.size W W2 := below_then hb1 hb2
  have z1 := hb1.size
  have e0 : W2.cell? ⟨w1.heap.size, 0, none⟩ = some (.int .i64 (nl : Int)) := by rw [hW2]; simp [go_sem]
  have e1 : W2.cell? ⟨w1.heap.size, 1, none⟩ = some (.int .i64 (nr : Int)) := by rw [hW2]; simp [go_sem]
  have hrow : W2.rowIs (w1.heap.size + 1) 36 10 (fun j => .int .i64 ((if j % 2 = 0 then (kinds.getD (j / 2) (0, 0)).1 else (kinds.getD (j / 2) (0, 0)).2 : Nat) : Int)) := by
    rw [hW2]
    have := step_row (w1.alloc (.cells #[.int .i64 (nl : Int), .int .i64 (nr : Int)] 150))
    rwa [World.size_alloc] at this
  have j2 : J [] W2 := OwnFrom.below hJ h0 hbW
  have k2 : Keep M W W2 := hM.below h0 hbW
  have hnew : ∀ b, W.heap.size ≤ b → ¬ M W2 b := fun b hb hm => Nat.lt_irrefl _ (Nat.lt_of_lt_of_le (hM.lt [] W b h0 (hM.grown [] W W2 none b h0 (grown_none hbW) (fun r e => by cases e) hm)) hb)
  have mp := k2.other bp wp hbp
  have ma := k2.other ba wa hba
  have me := hnew w1.heap.size z1
  have ms := hnew (w1.heap.size + 1) (by omega)
  replace p0 := cell_grown hbW p0
  replace p1 := cell_grown hbW p1
  replace p2 := cell_grown hbW p2
  replace p3 := cell_grown hbW p3
  replace p4 := cell_grown hbW p4
  replace p5 := cell_grown hbW p5
  replace p6 := cell_grown hbW p6
  replace a0 := cell_grown hbW a0
  replace a1 := cell_grown hbW a1
  have sW : W.heap.size ≤ W2.heap.size := hbW.size
  rw [← hW2]
  clear hW2 hnew hbp hba k2 hb2 hbW h0 z1 hb1 wp wa
  gi_loopw [6, 16] (fun _ c wr => ∃ (m : Nat) (pre : List (Nat × Nat)), m ≤ 5 ∧ c = .int .i64 m ∧ Hid (movesM nl nr i k = pre ++ (kinds.drop m).filter (fitsM nl nr i k)) ∧ J pre wr ∧ Keep M W2 wr) (fun _ c _ => 5 - (intOf c).toNat)
  case atStart => exact ⟨0, [], by omega, rfl, hid rfl, j2, Keep.refl _ _⟩
  case round =>
    obtain ⟨m, pre, hm, rfl, HE, hj, hB⟩ := hrel
    by_cases hlt : m < 5
    · have hlt' : (m : Int) < 5 := by omega
      have hx := kinds_le m hlt
      have hdr := kinds_drop m hlt
      have q0 : W2.cell? ⟨w1.heap.size + 1, m * 2, none⟩ = some (.int .i64 ((kinds.getD m (0, 0)).1 : Int)) := by
        have := hrow.cell (i := m * 2) (by omega)
        rwa [if_pos (by omega), show m * 2 / 2 = m by omega] at this
      have q1 : W2.cell? ⟨w1.heap.size + 1, m * 2 + 1, none⟩ = some (.int .i64 ((kinds.getD m (0, 0)).2 : Int)) := by
        have := hrow.cell (i := m * 2 + 1) (by omega)
        rwa [if_neg (by omega), show (m * 2 + 1) / 2 = m by omega] at this
      generalize kinds.getD m (0, 0) = x at hx hdr q0 q1
      obtain ⟨x1, x2⟩ := x
      simp only at hx q0 q1
      replace q0 := hB.cell ms q0
      replace q1 := hB.cell ms q1
      have g0 := lt_of_cell q0
      have f0 := hB.cell me e0
      have f1 := hB.cell me e1
      have f2 := lt_of_cell f0
      have r0 := hB.cell mp p0
      have r1 := hB.cell mp p1
      have r2 := hB.cell mp p2
      have r3 := hB.cell mp p3
      have r4 := hB.cell mp p4
      have r5 := hB.cell mp p5
      have b0 := hB.cell ma a0
      have b1 := hB.cell ma a1
      have gp := lt_of_cell r0
      have ga := lt_of_cell b0
      have np := hB.other bp (lt_of_cell p0) mp
      have na := hB.other ba (lt_of_cell a0) ma
      have hKa := hM.alloc hj (.cells #[.int .i64 (x1 : Int), .int .i64 (x2 : Int)] 36)
      have hF1 := hM.fresh hj (.cells #[.int .i64 (x1 : Int), .int .i64 (x2 : Int)] 36)
      have hj1 : J pre (wr.alloc (.cells #[.int .i64 (x1 : Int), .int .i64 (x2 : Int)] 36)) := OwnFrom.alloc hJ _ hj
      have HK1 := hid (hB.trans hKa)
      by_cases hfit : i + x1 ≤ nl ∧ k + x2 ≤ nr
      · have c1 : ¬ (nl : Int) < (i : Int) + (x1 : Int) := by omega
        have c2 : ¬ (nr : Int) < (k : Int) + (x2 : Int) := by omega
        have c3 : (i : Int) + (x1 : Int) ≤ (nl : Int) := by omega
        have c4 : (k : Int) + (x2 : Int) ≤ (nr : Int) := by omega
        have HE1 : Hid (movesM nl nr i k = pre ++ (x1, x2) :: (kinds.drop (m + 1)).filter (fitsM nl nr i k)) := hid (by
          rw [HE.out, hdr, List.filter_cons_of_pos (by simp [fitsM, hfit])])
        clear hdr
        gi_wp2_with fail
        obtain ⟨W3, hW3⟩ : ∃ X, X = wr.alloc (.cells #[.int .i64 (x1 : Int), .int .i64 (x2 : Int)] 36) := ⟨_, rfl⟩
        have hb3 : Below wr.heap.size wr W3 := by rw [hW3]; exact below_alloc _ _
        have sx0 : W3.cell? ⟨wr.heap.size, 0, none⟩ = some (.int .i64 (x1 : Int)) := by rw [hW3]; simp [go_sem]
        have sx1 : W3.cell? ⟨wr.heap.size, 1, none⟩ = some (.int .i64 (x2 : Int)) := by rw [hW3]; simp [go_sem]
        have s0 := cell_grown hb3 r0
        have s1 := cell_grown hb3 r1
        have s2 := cell_grown hb3 r2
        have s3 := cell_grown hb3 r3
        have s4 := cell_grown hb3 r4
        have s5 := cell_grown hb3 r5
        have sa0 := cell_grown hb3 b0
        have sa1 := cell_grown hb3 b1
        rw [← hW3] at HK1 hj1 hKa hF1 ⊢
        clear hW3
        have mp3 := hKa.other bp gp np
        have ma3 := hKa.other ba ga na
        have hpart1 : ∀ X, CallsIn F (n - 1) Try.prog 113 #[.agg #[.slice la nl cl, .int .u8 0, .int .i64 0], .int .i64 (i : Int), .int .i64 (x1 : Int)] X fun e w' => e = .returned (.agg #[.slice (subA la cl i 2) x1 (cl - i), .int .u8 0, .int .i64 (i : Int)]) ∧ Below X.heap.size X w' := fun X => hc (by
          have := part_any nl cl i x1 0 0 la X hnl (by omega) hcl hfit.1
          simpa only [Nat.zero_add, Int.natCast_zero, Int.ofNat_zero] using this)
        have hpart2 : ∀ X, CallsIn F (n - 1) Try.prog 113 #[.agg #[.slice ra nr cr, .int .u8 1, .int .i64 0], .int .i64 (k : Int), .int .i64 (x2 : Int)] X fun e w' => e = .returned (.agg #[.slice (subA ra cr k 2) x2 (cr - k), .int .u8 1, .int .i64 (k : Int)]) ∧ Below X.heap.size X w' := fun X => hc (by
          have := part_any nr cr k x2 1 0 ra X hnr (by omega) hcr hfit.2
          simpa only [Nat.zero_add, Int.natCast_zero, Int.ofNat_zero] using this)
        refine region_held (S := fun w' : World => w'.cell? ⟨bp, 0, none⟩ = some (.slice la nl cl) ∧ w'.cell? ⟨bp, 1, none⟩ = some (.int .u8 0) ∧ w'.cell? ⟨bp, 2, none⟩ = some (.int .i64 0) ∧ w'.cell? ⟨bp, 3, none⟩ = some (.slice ra nr cr) ∧ w'.cell? ⟨bp, 4, none⟩ = some (.int .u8 1) ∧ w'.cell? ⟨bp, 5, none⟩ = some (.int .i64 0) ∧ w'.cell? ⟨ba, 0, none⟩ = some (.int .i64 (i : Int)) ∧ w'.cell? ⟨ba, 1, none⟩ = some (.int .i64 (k : Int)) ∧ w'.cell? ⟨wr.heap.size, 0, none⟩ = some (.int .i64 (x1 : Int)) ∧ w'.cell? ⟨wr.heap.size, 1, none⟩ = some (.int .i64 (x2 : Int))) (by kernel_rfl) ⟨s0, s1, s2, s3, s4, s5, sa0, sa1, sx0, sx1⟩ (fun hHeld => ?_)
        refine held_take (i := 0) (v := ?_) (plain_of (by kernel_rfl)) rfl (by kernel_rfl) (by kernel_rfl) (by kernel_rfl) (fun _ _ _ h => h) (Or.inl ⟨by rfl, ?_⟩) (fun _ => rfl) (by assumption) ?_
        rotate_left 1
        · intro w hSw
          (try dsimp only at hSw)
          go_simp
          all_goals (with_reducible rfl)
        try simp only [Act.put, List.setIfInBounds_toArray, List.set_cons_zero, List.set_cons_succ]
        refine held_take (i := 1) (v := ?_) (plain_of (by kernel_rfl)) rfl (by kernel_rfl) (by kernel_rfl) (by kernel_rfl) (fun _ _ _ h => h) (Or.inl ⟨by rfl, ?_⟩) (fun _ => rfl) (by assumption) ?_
        rotate_left 1
        · intro w hSw
          (try dsimp only at hSw)
          go_simp
          all_goals (with_reducible rfl)
        try simp only [Act.put, List.setIfInBounds_toArray, List.set_cons_zero, List.set_cons_succ]
        refine held_take (i := 2) (v := ?_) (plain_of (by kernel_rfl)) rfl (by kernel_rfl) (by kernel_rfl) (by kernel_rfl) (fun _ _ _ h => h) (Or.inl ⟨by rfl, ?_⟩) (fun _ => rfl) (by assumption) ?_
        rotate_left 1
        · intro w hSw
          (try dsimp only at hSw)
          go_simp
          all_goals (with_reducible rfl)
        try simp only [Act.put, List.setIfInBounds_toArray, List.set_cons_zero, List.set_cons_succ]
        refine held_take (i := 3) (v := ?_) (plain_of (by kernel_rfl)) rfl (by kernel_rfl) (by kernel_rfl) (by kernel_rfl) (fun _ _ _ h => h) (Or.inl ⟨by rfl, ?_⟩) (fun _ => rfl) (by assumption) ?_
        rotate_left 1
        · intro w hSw
          (try dsimp only at hSw)
          go_simp
          all_goals (with_reducible rfl)
        try simp only [Act.put, List.setIfInBounds_toArray, List.set_cons_zero, List.set_cons_succ]
        refine held_take (i := 4) (v := ?_) (plain_of (by kernel_rfl)) rfl (by kernel_rfl) (by kernel_rfl) (by kernel_rfl) (fun _ _ _ h => h) (Or.inl ⟨by rfl, ?_⟩) (fun _ => rfl) (by assumption) ?_
        rotate_left 1
        · intro w hSw
          (try dsimp only at hSw)
          go_simp
          all_goals (with_reducible rfl)
        try simp only [Act.put, List.setIfInBounds_toArray, List.set_cons_zero, List.set_cons_succ]
        refine held_take (i := 5) (v := ?_) (plain_of (by kernel_rfl)) rfl (by kernel_rfl) (by kernel_rfl) (by kernel_rfl) (fun _ _ _ h => h) (Or.inl ⟨by rfl, ?_⟩) (fun _ => rfl) (by assumption) ?_
        rotate_left 1
        · intro w hSw
          (try dsimp only at hSw)
          go_simp
          all_goals (with_reducible rfl)
        try simp only [Act.put, List.setIfInBounds_toArray, List.set_cons_zero, List.set_cons_succ]
        refine held_take (i := 6) (v := ?_) (plain_of (by kernel_rfl)) rfl (by kernel_rfl) (by kernel_rfl) (by kernel_rfl) (fun _ _ _ h => h) (Or.inl ⟨by rfl, ?_⟩) (fun _ => rfl) (by assumption) ?_
        rotate_left 1
        · intro w hSw
          (try dsimp only at hSw)
          go_simp
          all_goals (with_reducible rfl)
        try simp only [Act.put, List.setIfInBounds_toArray, List.set_cons_zero, List.set_cons_succ]
        refine held_take (i := 7) (v := ?_) (plain_of (by kernel_rfl)) rfl (by kernel_rfl) (by kernel_rfl) (by kernel_rfl) (fun _ _ _ h => h) (Or.inl ⟨by rfl, ?_⟩) (fun _ => rfl) (by assumption) ?_
        rotate_left 1
        · intro w hSw
          (try dsimp only at hSw)
          go_simp
          all_goals (with_reducible rfl)
        try simp only [Act.put, List.setIfInBounds_toArray, List.set_cons_zero, List.set_cons_succ]
        refine held_take (i := 9) (v := ?_) (plain_of (by kernel_rfl)) rfl (by kernel_rfl) (by kernel_rfl) (by kernel_rfl) (fun _ _ _ h => h) (Or.inl ⟨by rfl, ?_⟩) (fun _ => rfl) (by assumption) ?_
        rotate_left 1
        · intro w hSw
          (try dsimp only at hSw)
          go_simp
          all_goals (with_reducible rfl)
        try simp only [Act.put, List.setIfInBounds_toArray, List.set_cons_zero, List.set_cons_succ]
        refine held_take (i := 10) (v := ?_) (plain_of (by kernel_rfl)) rfl (by kernel_rfl) (by kernel_rfl) (by kernel_rfl) (fun _ _ _ h => h) (Or.inl ⟨by rfl, ?_⟩) (fun _ => rfl) (by assumption) ?_
        rotate_left 1
        · intro w hSw
          (try dsimp only at hSw)
          go_simp
          all_goals (with_reducible rfl)
        try simp only [Act.put, List.setIfInBounds_toArray, List.set_cons_zero, List.set_cons_succ]
        refine held_take (i := 11) (v := ?_) (plain_of (by kernel_rfl)) rfl (by kernel_rfl) (by kernel_rfl) (by kernel_rfl) (fun _ _ _ h => h) (Or.inl ⟨by rfl, ?_⟩) (fun _ => rfl) (by assumption) ?_
        rotate_left 1
        · intro w hSw
          (try dsimp only at hSw)
          go_simp
          all_goals (with_reducible rfl)
        try simp only [Act.put, List.setIfInBounds_toArray, List.set_cons_zero, List.set_cons_succ]
        refine held_take (i := 12) (v := ?_) (plain_of (by kernel_rfl)) rfl (by kernel_rfl) (by kernel_rfl) (by kernel_rfl) (fun _ _ _ h => h) (Or.inl ⟨by rfl, ?_⟩) (fun _ => rfl) (by assumption) ?_
        rotate_left 1
        · intro w hSw
          (try dsimp only at hSw)
          go_simp
          all_goals (with_reducible rfl)
        try simp only [Act.put, List.setIfInBounds_toArray, List.set_cons_zero, List.set_cons_succ]
        refine held_take (i := 13) (v := ?_) (plain_of (by kernel_rfl)) rfl (by kernel_rfl) (by kernel_rfl) (by kernel_rfl) (fun _ _ _ h => h) (Or.inl ⟨by rfl, ?_⟩) (fun _ => rfl) (by assumption) ?_
        rotate_left 1
        · intro w hSw
          (try dsimp only at hSw)
          go_simp
          all_goals (with_reducible rfl)
        try simp only [Act.put, List.setIfInBounds_toArray, List.set_cons_zero, List.set_cons_succ]
        refine held_take (i := 14) (v := ?_) (plain_of (by kernel_rfl)) rfl (by kernel_rfl) (by kernel_rfl) (by kernel_rfl) (fun _ _ _ h => h) (Or.inl ⟨by rfl, ?_⟩) (fun _ => rfl) (by assumption) ?_
        rotate_left 1
        · intro w hSw
          (try dsimp only at hSw)
          go_simp
          all_goals (with_reducible rfl)
        try simp only [Act.put, List.setIfInBounds_toArray, List.set_cons_zero, List.set_cons_succ]
        refine held_one (i := 8) (by kernel_rfl) rfl (fun K hK => ?_)
        rw [if_pos (by rfl)]
        unfold Oper.wpIn
        refine ⟨fun f _ => hF f, ?_⟩
        go_simp
        refine (hpart1 _).mono ?_
        rintro e w4 ⟨rfl, hb4⟩
        have hB4 : Below W3.heap.size W3 w4 := (Below.refl _ W3).drew.trans hb4
        clear hHeld hb4
        refine hK.out _ _ ?_ (fun hHeld => ?_)
        · exact ⟨cell_grown hB4 s0, cell_grown hB4 s1, cell_grown hB4 s2, cell_grown hB4 s3, cell_grown hB4 s4, cell_grown hB4 s5, cell_grown hB4 sa0, cell_grown hB4 sa1, cell_grown hB4 sx0, cell_grown hB4 sx1⟩
        clear hK K
        try simp only [Act.put, List.setIfInBounds_toArray, List.set_cons_zero, List.set_cons_succ]
        refine held_one (i := 15) (by kernel_rfl) rfl (fun K hK => ?_)
        rw [if_pos (by rfl)]
        unfold Oper.wpIn
        refine ⟨fun f _ => hF f, ?_⟩
        go_simp
        refine (hpart2 _).mono ?_
        rintro e w5 ⟨rfl, hb5⟩
        have hB5 := below_then hB4 hb5
        clear hHeld hb5 hB4
        refine hK.out _ _ ?_ (fun hHeld => ?_)
        · exact ⟨cell_grown hB5 s0, cell_grown hB5 s1, cell_grown hB5 s2, cell_grown hB5 s3, cell_grown hB5 s4, cell_grown hB5 s5, cell_grown hB5 sa0, cell_grown hB5 sa1, cell_grown hB5 sx0, cell_grown hB5 sx1⟩
        clear hK K
        try simp only [Act.put, List.setIfInBounds_toArray, List.set_cons_zero, List.set_cons_succ]
        refine held_take (i := 16) (v := ?_) (plain_of (by kernel_rfl)) rfl (by kernel_rfl) (by kernel_rfl) (by kernel_rfl) (fun _ _ _ h => h) (Or.inl ⟨by rfl, ?_⟩) (fun _ => rfl) (by assumption) ?_
        rotate_left 1
        · intro w hSw
          (try dsimp only at hSw)
          go_simp
          all_goals (with_reducible rfl)
        try simp only [Act.put, List.setIfInBounds_toArray, List.set_cons_zero, List.set_cons_succ]
        have hj5 : J pre w5 := OwnFrom.below hJ hj1 hB5
        have hk5 : Keep M W3 w5 := hM.below hj1 hB5
        obtain ⟨fn, tmps, assign, body, hy, hR⟩ := hY pre (x1, x2) _ w5 HE1.out hj5
        dsimp only [encMove] at hy
        refine held_one (i := 17) (by kernel_rfl) rfl (fun K hK => ?_)
        rw [if_pos (by rfl)]
        unfold Oper.wpIn
        refine ⟨fun f _ => hF f, ?_⟩
        go_simp
        have mp5 := hk5.other bp (lt_of_cell s0) mp3
        have ma5 := hk5.other ba (lt_of_cell sa0) ma3
        have mx5 := hk5.other wr.heap.size (lt_of_cell sx0) hF1
        refine hR.mono ?_
        clear hHeld hy hR
        rintro e W6 (⟨rfl, hJ6, hk6, _⟩ | ⟨rfl, hJx6, _, hc6⟩)
        · refine hK.out _ _ ?_ (fun hHeld => ?_)
          · exact ⟨hk6.cell mp5 (cell_grown hB5 s0), hk6.cell mp5 (cell_grown hB5 s1), hk6.cell mp5 (cell_grown hB5 s2), hk6.cell mp5 (cell_grown hB5 s3), hk6.cell mp5 (cell_grown hB5 s4), hk6.cell mp5 (cell_grown hB5 s5), hk6.cell ma5 (cell_grown hB5 sa0), hk6.cell ma5 (cell_grown hB5 sa1), hk6.cell mx5 (cell_grown hB5 sx0), hk6.cell mx5 (cell_grown hB5 sx1)⟩
          clear hK K
          try simp only [Act.put, List.setIfInBounds_toArray, List.set_cons_zero, List.set_cons_succ]
          refine held_take (i := 18) (v := ?_) (plain_of (by kernel_rfl)) rfl (by kernel_rfl) (by kernel_rfl) (by kernel_rfl) (fun _ _ _ h => h) (Or.inl ⟨by rfl, ?_⟩) (fun _ => rfl) (by assumption) ?_
          rotate_left 1
          · intro w hSw
            (try dsimp only at hSw)
            go_simp
            all_goals (with_reducible rfl)
          try simp only [Act.put, List.setIfInBounds_toArray, List.set_cons_zero, List.set_cons_succ]
          refine held_done (by kernel_rfl) ?_ _
          gi_wp2_with fail
          go_roundw
          case rel => exact ⟨m + 1, pre ++ [(x1, x2)], by omega, by go_num, hid (by rw [HE1.out]; simp), hJ6, HK1.out.trans (hk5.trans hk6)⟩
          case measure => simp [intOf]; omega
        · refine hK.out _ _ ?_ (fun hHeld => ?_)
          · exact ⟨hc6 _ _ _ (cell_grown hB5 s0) mp5, hc6 _ _ _ (cell_grown hB5 s1) mp5, hc6 _ _ _ (cell_grown hB5 s2) mp5, hc6 _ _ _ (cell_grown hB5 s3) mp5, hc6 _ _ _ (cell_grown hB5 s4) mp5, hc6 _ _ _ (cell_grown hB5 s5) mp5, hc6 _ _ _ (cell_grown hB5 sa0) ma5, hc6 _ _ _ (cell_grown hB5 sa1) ma5, hc6 _ _ _ (cell_grown hB5 sx0) mx5, hc6 _ _ _ (cell_grown hB5 sx1) mx5⟩
          clear hK K
          try simp only [Act.put, List.setIfInBounds_toArray, List.set_cons_zero, List.set_cons_succ]
          refine held_take (i := 18) (v := ?_) (plain_of (by kernel_rfl)) rfl (by kernel_rfl) (by kernel_rfl) (by kernel_rfl) (fun _ _ _ h => h) (Or.inl ⟨by rfl, ?_⟩) (fun _ => rfl) (by assumption) ?_
          rotate_left 1
          · intro w hSw
            (try dsimp only at hSw)
            go_simp
            all_goals (with_reducible rfl)
          try simp only [Act.put, List.setIfInBounds_toArray, List.set_cons_zero, List.set_cons_succ]
          refine held_done (by kernel_rfl) ?_ _
          gi_wp2_with fail
          refine bodyPost_ret (results_none rfl _ _ _) rfl ?_
          exact ⟨⟨_, rfl⟩, .inr ⟨pre ++ [(x1, x2)], ⟨(kinds.drop (m + 1)).filter (fitsM nl nr i k), by rw [HE1.out]; simp⟩, hJx6⟩⟩
      · have HE1 : Hid (movesM nl nr i k = pre ++ (kinds.drop (m + 1)).filter (fitsM nl nr i k)) := hid (by
          rw [HE.out, hdr, List.filter_cons_of_neg (by simp only [fitsM, Bool.and_eq_true, decide_eq_true_eq]; exact hfit)])
        clear hdr
        by_cases h1 : i + x1 ≤ nl
        · have h2 : ¬ k + x2 ≤ nr := fun h => hfit ⟨h1, h⟩
          have c1 : ¬ (nl : Int) < (i : Int) + (x1 : Int) := by omega
          have c2 : (nr : Int) < (k : Int) + (x2 : Int) := by omega
          gi_wp2_with fail
          go_roundw
          case rel => exact ⟨m + 1, pre, by omega, by go_num, HE1, hj1, HK1.out⟩
          case measure => simp [intOf]; omega
        · have c1 : (nl : Int) < (i : Int) + (x1 : Int) := by omega
          gi_wp2_with fail
          go_roundw
          case rel => exact ⟨m + 1, pre, by omega, by go_num, HE1, hj1, HK1.out⟩
          case measure => simp [intOf]; omega
    · have hm5 : m = 5 := by omega
      subst hm5
      have hE : movesM nl nr i k = pre := by rw [HE.out]; simp [kinds]
      gi_wp2_with fail
      go_end0
      exact ⟨⟨_, rfl⟩, .inl (by rw [hE]; exact hj)⟩

theorem next_seq (hF : ∀ f, F.fn f) (hro : F.round = none) (hd : F.depth = none) (hc : ∀ {m f args w R}, Calls Try.prog f args w R → CallsIn F m Try.prog f args w R) (hn : 1 ≤ n) (bp ba nl cl nr cr i k cn cc : Nat) (la ra ca : Option Addr) (hnl : nl ≤ 1000) (hnr : nr ≤ 1000) (hcl : nl ≤ cl) (hcr : nr ≤ cr) (hi : i ≤ 1000) (hk : k ≤ 1000) (w : World)
    (p0 : w.cell? ⟨bp, 0, none⟩ = some (.slice la nl cl))
    (p1 : w.cell? ⟨bp, 1, none⟩ = some (.int .u8 0))
    (p2 : w.cell? ⟨bp, 2, none⟩ = some (.int .i64 0))
    (p3 : w.cell? ⟨bp, 3, none⟩ = some (.slice ra nr cr))
    (p4 : w.cell? ⟨bp, 4, none⟩ = some (.int .u8 1))
    (p5 : w.cell? ⟨bp, 5, none⟩ = some (.int .i64 0))
    (p6 : w.cell? ⟨bp, 6, none⟩ = some (.slice ca cn cc))
    (a0 : w.cell? ⟨ba, 0, none⟩ = some (.int .i64 (i : Int))) (a1 : w.cell? ⟨ba, 1, none⟩ = some (.int .i64 (k : Int))) :
    SeqO F n Try.prog 112 #[.pointer (some ⟨bp, 0, none⟩), .pointer (some ⟨ba, 0, none⟩)] (encMove la cl ra cr i k) (fun b => b = bp ∨ b = ba) (movesM nl nr i k) w := fun l J Jx M W hW hJ _ hM hres hY h0 =>
  next1_in hF hro hd hc hn l bp ba nl cl nr cr i k cn cc la ra ca hnl hnr hcl hcr hi hk J Jx M W hJ hM (hres _ (.inl rfl)) (hres _ (.inr rfl)) hY (cell_grown hW p0) (cell_grown hW p1) (cell_grown hW p2) (cell_grown hW p3) (cell_grown hW p4) (cell_grown hW p5) (cell_grown hW p6) (cell_grown hW a0) (cell_grown hW a1) h0

end Go.Proofs.Ytohahlnhbppnhaa

namespace Go.Proofs.Ytohahlnhbppnhaa
open Go.RowKit Go.Shelf
set_option linter.unusedSimpArgs false
set_option linter.unusedVariables false

attribute [local go_sem] Oper.semAt_some

/-- The places with so many left sentences, and so many right ones at most. -/
def rowM (a b : Nat) : List (Nat × Nat) := (List.range b).reverse.map fun k => (a, k)

/-- The places with less left sentences than so many. -/
def rowsM (nr : Nat) (a : Nat) : List (Nat × Nat) := (List.range a).reverse.flatMap fun i => rowM i (nr + 1)

/-- All places, the last one first. -/
def placesM (nl nr : Nat) : List (Nat × Nat) := rowsM nr (nl + 1)

theorem rowM_succ (a b : Nat) : rowM a (b + 1) = (a, b) :: rowM a b := by
  unfold rowM
  rw [List.range_succ, List.reverse_append]
  rfl

theorem rowsM_succ (nr a : Nat) : rowsM nr (a + 1) = rowM a (nr + 1) ++ rowsM nr a := by
  unfold rowsM
  rw [List.range_succ, List.reverse_append]
  rfl

theorem field150_0 (x y : Int) (w : World) : (Instr.field 150 (.agg #[.int .i64 x, .int .i64 y]) 0).run Try.prog w = .ok (.int .i64 x) w := by kernel_rfl
theorem field150_1 (x y : Int) (w : World) : (Instr.field 150 (.agg #[.int .i64 x, .int .i64 y]) 1).run Try.prog w = .ok (.int .i64 y) w := by kernel_rfl

def encPlace (x : Nat × Nat) : Array Value := #[.agg #[.int .i64 (x.1 : Int), .int .i64 (x.2 : Int)]]

variable {F : Fence} {n : Nat}

set_option maxRecDepth 100000 in
set_option maxHeartbeats 2000000 in
theorem places1_in (hF : ∀ f, F.fn f) (hro : F.round = none) (hd : F.depth = none) (hc : ∀ {m f args w R}, Calls Try.prog f args w R → CallsIn F m Try.prog f args w R) (hn : 1 ≤ n) (l bp nl cl nr cr cn cc : Nat) (la ra ca : Option Addr) (hnl : nl ≤ 1000) (hnr : nr ≤ 1000)
    (J Jx : List (Nat × Nat) → World → Prop) (M : World → Nat → Prop) (W : World) (hJ : OwnFrom W.heap.size J) (hM : MineOk W.heap.size J M) (hbp : ¬ M W bp)
    (hY : ∀ pre x rest W1, placesM nl nr = pre ++ x :: rest → J pre W1 → YieldAt F (n - 1) Try.prog l (encPlace x) W1 fun e W' =>
      (e = .returned (.bool true) ∧ J (pre ++ [x]) W' ∧ Keep M W1 W' ∧ KeepsFrom W.heap.size W1 W') ∨ (e = .returned (.bool false) ∧ Jx (pre ++ [x]) W' ∧ KeepsFrom W.heap.size W1 W' ∧ KeepC M W1 W'))
    (p0 : W.cell? ⟨bp, 0, none⟩ = some (.slice la nl cl))
    (p1 : W.cell? ⟨bp, 1, none⟩ = some (.int .u8 0))
    (p2 : W.cell? ⟨bp, 2, none⟩ = some (.int .i64 0))
    (p3 : W.cell? ⟨bp, 3, none⟩ = some (.slice ra nr cr))
    (p4 : W.cell? ⟨bp, 4, none⟩ = some (.int .u8 1))
    (p5 : W.cell? ⟨bp, 5, none⟩ = some (.int .i64 0))
    (p6 : W.cell? ⟨bp, 6, none⟩ = some (.slice ca cn cc))
    (h0 : J [] W) :
    CallsIn F n Try.prog 123 #[.func (.yield l) #[] #[], .pointer (some ⟨bp, 0, none⟩)] W fun e W' => (∃ v, e = .returned v) ∧
      (J (placesM nl nr) W' ∨ ∃ pre, pre <+: placesM nl nr ∧ Jx pre W') := by
  have hend : ∀ W, CallsIn F (n - 1) Try.prog 84 #[.agg #[.slice la nl cl, .int .u8 0, .int .i64 0, .slice ra nr cr, .int .u8 1, .int .i64 0, .slice ca cn cc]] W fun e w' => e = .returned (.agg #[.int .i64 (nl : Int), .int .i64 (nr : Int)]) ∧ Below W.heap.size W w' := fun W => hc (by
    have := pend_any 0 1 nl cl 0 nr cr 0 la ra ca cn cc W hnl hnr (by omega) (by omega)
    simpa only [Nat.zero_add, Int.natCast_zero, Int.ofNat_zero] using this)
  refine callsIn_of_wp Try.func123 rfl (hF _) ?_ hro
  simp only [Try.ntmps123, List.size_toArray, List.length_cons, List.length_nil, Nat.reduceAdd, Nat.reduceSub, Array.replicate_succ, Array.replicate_zero, List.push_toArray, List.append_toArray, List.nil_append, List.cons_append]
  have wp := lt_of_cell p0
  have hfd0 := field150_0 (nl : Int) (nr : Int)
  have hfd1 := field150_1 (nl : Int) (nr : Int)
  gi_wp2_with (gi_at_call 84; refine (hend _).mono ?_; rintro e w1 ⟨rfl, hb1⟩)
  have j1 : J [] w1 := OwnFrom.below hJ h0 hb1
  have k1 : Keep M W w1 := hM.below h0 hb1
  gi_loopw [3, 4] (fun c _ wr => ∃ (z : Int) (a : Nat) (pre : List (Nat × Nat)), z = (a : Int) - 1 ∧ a ≤ nl + 1 ∧ c = .int .i64 z ∧ Hid (placesM nl nr = pre ++ rowsM nr a) ∧ J pre wr ∧ Keep M W wr) (fun c _ _ => (intOf c + 1).toNat)
  case atStart => exact ⟨(nl : Int), nl + 1, [], by omega, by omega, rfl, hid rfl, j1, k1⟩
  case round =>
    obtain ⟨z, a, pre, hz, ha, rfl, HE, hj, hB⟩ := hrel
    by_cases h0a : a = 0
    · have hz0 : z < 0 := by omega
      subst h0a
      have hE : placesM nl nr = pre := by rw [HE.out]; simp [rowsM]
      gi_wp2_with fail
      go_end0
      exact ⟨⟨_, rfl⟩, .inl (by rw [hE]; exact hj)⟩
    · obtain ⟨i, rfl⟩ : ∃ i, a = i + 1 := ⟨a - 1, by omega⟩
      obtain rfl : z = (i : Int) := by omega
      have HE1 : Hid (placesM nl nr = pre ++ (rowM i (nr + 1) ++ rowsM nr i)) := hid (by rw [HE.out, rowsM_succ])
      clear HE hz h0a
      have r0 := hB.cell hbp p0
      have r1 := hB.cell hbp p1
      have r2 := hB.cell hbp p2
      have r3 := hB.cell hbp p3
      have r4 := hB.cell hbp p4
      have r5 := hB.cell hbp p5
      have r6 := hB.cell hbp p6
      have gp := lt_of_cell r0
      have hi0 : (0 : Int) ≤ (i : Int) := by omega
      gi_wp2_with (gi_at_call 84; refine (hend _).mono ?_; rintro e w2 ⟨rfl, hb2⟩)
      have j2 : J pre w2 := OwnFrom.below hJ hj hb2
      have k2 : Keep M W w2 := hB.trans (hM.below hj hb2)
      clear hb2
      obtain ⟨wo, hwo⟩ : ∃ X, X = wr := ⟨_, rfl⟩
      subst hwo
      gi_loopw [4] (fun c wr => ∃ (z : Int) (b : Nat) (pre : List (Nat × Nat)), z = (b : Int) - 1 ∧ b ≤ nr + 1 ∧ c = .int .i64 z ∧ Hid (placesM nl nr = pre ++ (rowM i b ++ rowsM nr i)) ∧ J pre wr ∧ Keep M W wr) (fun c _ => (intOf c + 1).toNat)
      case atStart => exact ⟨(nr : Int), nr + 1, pre, by omega, by omega, rfl, HE1, j2, k2⟩
      case round =>
        obtain ⟨z, b, pre2, hz, hb, rfl, HE, hj, hB⟩ := hrel
        by_cases h0b : b = 0
        · have hz0 : z < 0 := by omega
          subst h0b
          have HE3 : Hid (placesM nl nr = pre2 ++ rowsM nr i) := hid (by rw [HE.out]; simp [rowM])
          gi_wp2_with fail
          go_roundw
          case rel => exact ⟨(i : Int) - 1, i, pre2, rfl, by omega, by go_num, HE3, hj, hB⟩
          case measure => simp [intOf]
        · obtain ⟨k, rfl⟩ : ∃ k, b = k + 1 := ⟨b - 1, by omega⟩
          obtain rfl : z = (k : Int) := by omega
          have HE2 : Hid (placesM nl nr = pre2 ++ (i, k) :: (rowM i k ++ rowsM nr i)) := hid (by rw [HE.out, rowM_succ]; rfl)
          clear HE hz h0b
          have hk0 : (0 : Int) ≤ (k : Int) := by omega
          obtain ⟨fn, tmps, assign, body, hy, hR⟩ := hY pre2 (i, k) _ wr HE2.out hj
          dsimp only [encPlace] at hy
          gi_wp2
          refine hR.mono ?_
          clear hy hR
          rintro e W3 (⟨rfl, hJ3, hk3, _⟩ | ⟨rfl, hJx3, _, _⟩)
          · gi_wp2
            go_roundw
            case rel => exact ⟨(k : Int) - 1, k, pre2 ++ [(i, k)], rfl, by omega, rfl, hid (by rw [HE2.out]; simp), hJ3, hB.trans hk3⟩
            case measure => simp [intOf]
          · gi_wp2
            refine bodyPost_ret (results_none rfl _ _ _) rfl ?_
            exact ⟨⟨_, rfl⟩, .inr ⟨pre2 ++ [(i, k)], ⟨rowM i k ++ rowsM nr i, by rw [HE2.out]; simp⟩, hJx3⟩⟩

theorem places_seq (hF : ∀ f, F.fn f) (hro : F.round = none) (hd : F.depth = none) (hc : ∀ {m f args w R}, Calls Try.prog f args w R → CallsIn F m Try.prog f args w R) (hn : 1 ≤ n) (bp nl cl nr cr cn cc : Nat) (la ra ca : Option Addr) (hnl : nl ≤ 1000) (hnr : nr ≤ 1000) (w : World)
    (p0 : w.cell? ⟨bp, 0, none⟩ = some (.slice la nl cl))
    (p1 : w.cell? ⟨bp, 1, none⟩ = some (.int .u8 0))
    (p2 : w.cell? ⟨bp, 2, none⟩ = some (.int .i64 0))
    (p3 : w.cell? ⟨bp, 3, none⟩ = some (.slice ra nr cr))
    (p4 : w.cell? ⟨bp, 4, none⟩ = some (.int .u8 1))
    (p5 : w.cell? ⟨bp, 5, none⟩ = some (.int .i64 0))
    (p6 : w.cell? ⟨bp, 6, none⟩ = some (.slice ca cn cc)) :
    SeqO F n Try.prog 123 #[.pointer (some ⟨bp, 0, none⟩)] encPlace (fun b => b = bp) (placesM nl nr) w := fun l J Jx M W hW hJ _ hM hres hY h0 =>
  places1_in hF hro hd hc hn l bp nl cl nr cr cn cc la ra ca hnl hnr J Jx M W hJ hM (hres _ rfl) hY (cell_grown hW p0) (cell_grown hW p1) (cell_grown hW p2) (cell_grown hW p3) (cell_grown hW p4) (cell_grown hW p5) (cell_grown hW p6) h0

end Go.Proofs.Ytohahlnhbppnhaa
