/- A range over a function whose iterator may itself range over another one: what a caller owes, and what it gets. A loop's body that appends to a slice in a box: which blocks are its own. -/
import Derived.Test.YtohahlnhbppnhaaB
import Derived.RangeFuncNested
import Derived.RangeFuncBound
import Derived.RangeFuncCalls
import Derived.RangeFuncLeaves
import Derived.RangeFuncBox
import Derived.OwnWalkIn
import Derived.Maps.AppendAt
namespace Go.Proofs.Ytohahlnhbppnhaa
open Go.RowKit
set_option linter.unusedSimpArgs false
set_option linter.unusedVariables false

/-- Below: M W k: the block k is one that the loop's body may write, as the world W is. A round keeps all other blocks, and makes none of them its own. -/
structure Keep (M : World → Nat → Prop) (W W' : World) : Prop where
  size : W.heap.size ≤ W'.heap.size
  same : ∀ k, k < W.heap.size → ¬ M W k → W'.heap[k]? = W.heap[k]?
  other : ∀ k, k < W.heap.size → ¬ M W k → ¬ M W' k

theorem Keep.refl (M : World → Nat → Prop) (W : World) : Keep M W W := ⟨Nat.le_refl _, fun _ _ _ => rfl, fun _ _ h => h⟩
theorem Keep.trans {M : World → Nat → Prop} {A B C : World} (h : Keep M A B) (k : Keep M B C) : Keep M A C :=
  ⟨Nat.le_trans h.size k.size, fun i hi hm => (k.same i (Nat.lt_of_lt_of_le hi h.size) (h.other i hi hm)).trans (h.same i hi hm), fun i hi hm => k.other i (Nat.lt_of_lt_of_le hi h.size) (h.other i hi hm)⟩
theorem Keep.cell {M : World → Nat → Prop} {W W' : World} (h : Keep M W W') {b o : Nat} {v : Value} (hb : ¬ M W b) (hc : W.cell? ⟨b, o, none⟩ = some v) : W'.cell? ⟨b, o, none⟩ = some v :=
  (World.cell?_of_block (w := W) (a := ⟨b, o, none⟩) (h.same b (World.block_lt_of_cell? W _ hc) hb)).trans hc

/-- A round that leaves keeps what the cells of all other blocks hold. -/
def KeepC (M : World → Nat → Prop) (W W' : World) : Prop := ∀ b o v, W.cell? ⟨b, o, none⟩ = some v → ¬ M W b → W'.cell? ⟨b, o, none⟩ = some v

theorem Keep.toC {M : World → Nat → Prop} {W W' : World} (h : Keep M W W') : KeepC M W W' := fun _ _ _ hc hm => h.cell hm hc

/-- What is the body's own lies in memory, and nothing becomes its own by a new block, or by a change of book-keeping. -/
structure MineOk {β : Type} (B : Nat) (J : β → World → Prop) (M : World → Nat → Prop) : Prop where
  lt : ∀ s W k, J s W → M W k → k < W.heap.size
  grown : ∀ s W W' row k, J s W → W.grownBy W' row → (∀ r, row = some r → B ≤ r ∧ ∃ o : Obj, W.heap[r]? = some o ∧ o.isCells = false) → M W' k → M W k

theorem MineOk.alloc {β : Type} {B : Nat} {J : β → World → Prop} {M : World → Nat → Prop} (h : MineOk B J M) {s : β} {W : World} (hs : J s W) (o : Obj) : Keep M W (W.alloc o) :=
  ⟨by simp, fun k hk _ => Below.heap_alloc _ _ _ hk, fun k _ hm hm' => hm (h.grown s W _ none k hs (World.grownBy_alloc W o none) (fun r e => by cases e) hm')⟩

theorem MineOk.fresh {β : Type} {B : Nat} {J : β → World → Prop} {M : World → Nat → Prop} (h : MineOk B J M) {s : β} {W : World} (hs : J s W) (o : Obj) : ¬ M (W.alloc o) W.heap.size :=
  fun hm => Nat.lt_irrefl _ (h.lt s W _ hs (h.grown s W _ none _ hs (World.grownBy_alloc W o none) (fun r e => by cases e) hm))

theorem MineOk.le {β : Type} {B B' : Nat} {J : β → World → Prop} {M : World → Nat → Prop} (h : MineOk B J M) (hle : B ≤ B') : MineOk B' J M :=
  ⟨h.lt, fun s W W' row k hs hg hr => h.grown s W W' row k hs hg (fun r e => ⟨Nat.le_trans hle (hr r e).1, (hr r e).2⟩)⟩

theorem MineOk.of {β γ : Type} {B : Nat} {J : β → World → Prop} {M : World → Nat → Prop} (h : MineOk B J M) {J' : γ → World → Prop} (hj : ∀ s W, J' s W → ∃ t, J t W) : MineOk B J' M :=
  ⟨fun s W k hs hm => let ⟨t, ht⟩ := hj s W hs; h.lt t W k ht hm, fun s W W' row k hs hg hr hm => let ⟨t, ht⟩ := hj s W hs; h.grown t W W' row k ht hg hr hm⟩

/-- What an iterator's value promises: it hands over all of xs in their order, or a beginning of them where a round said no more. What the loop's body knows (J, Jx) may be lost by no change of a block of book-keeping; the body may write its own blocks (M); the blocks that the iterator reads (Res) are none of them. -/
def SeqO {α : Type} (F : Fence) (n : Nat) (P : Program) (g : Nat) (lb : Array Value) (encs : α → Array Value) (Res : Nat → Prop) (xs : List α) (w : World) : Prop :=
  ∀ (l : Nat) (J Jx : List α → World → Prop) (M : World → Nat → Prop) (W : World), Below w.heap.size w W → OwnFrom W.heap.size J → OwnFrom W.heap.size Jx → MineOk W.heap.size J M → (∀ k, Res k → ¬ M W k) →
    (∀ pre x rest W1, xs = pre ++ x :: rest → J pre W1 → YieldAt F (n - 1) P l (encs x) W1 fun e W' =>
      (e = .returned (.bool true) ∧ J (pre ++ [x]) W' ∧ Keep M W1 W' ∧ KeepsFrom W.heap.size W1 W') ∨ (e = .returned (.bool false) ∧ Jx (pre ++ [x]) W' ∧ KeepsFrom W.heap.size W1 W' ∧ KeepC M W1 W')) →
    J [] W →
    CallsIn F n P g (#[.func (.yield l) #[] #[]] ++ lb) W fun e W' => (∃ v, e = .returned v) ∧ (J xs W' ∨ ∃ pre, pre <+: xs ∧ Jx pre W')

/-- How the body of a round may be left. -/
def leftBy {α : Type} (B : Nat) (M : World → Nat → Prop) (I : List α → World → Prop) (Ix : Code → List α → World → Prop) (xs : List α) (W : World) : Exit → Act → World → Prop
  | .normal, _, W' => KeepsFrom B W W' ∧ Keep M W W' ∧ I xs W'
  | .ret, _, W' => KeepsFrom B W W' ∧ KeepC M W W' ∧ Ix .ret xs W'
  | .exit id, _, W' => KeepsFrom B W W' ∧ KeepC M W W' ∧ Ix (.exit id) xs W'
  | .goto t, _, W' => KeepsFrom B W W' ∧ KeepC M W W' ∧ Ix (.goto t) xs W'
  | .panic _, _, _ => False
  | .outgrown, _, _ => False

variable {F : Fence} {n : Nat} {P : Program}

theorem KeepsFrom.le {B B' : Nat} {W W' : World} (h : KeepsFrom B W W') (hle : B ≤ B') : KeepsFrom B' W W' := ⟨h.size, fun k o hk => h.same k o (Nat.le_trans hle hk)⟩

theorem OwnFrom.le {β : Type} {B B' : Nat} {I : β → World → Prop} (h : OwnFrom B I) (hle : B ≤ B') : OwnFrom B' I :=
  fun s W W' row hs hg hr => h s W W' row hs hg (fun r e => ⟨Nat.le_trans hle (hr r e).1, (hr r e).2⟩)

/-- The loop's two blocks of book-keeping: its record, and the one for deferred calls. -/
def Kept (D l : Nat) (rec : Loop) (W : World) : Prop := W.heap[l]? = some (.loop rec) ∧ W.heap[D]? = some (.deferred (some []))

theorem Kept.grown {D l : Nat} {rec : Loop} {B : Nat} {W W' : World} {row : Option Nat} (h : Kept D l rec W) (hg : W.grownBy W' row) (hD : D < B) (hl : l < B) (hr : ∀ r, row = some r → B ≤ r) : Kept D l rec W' := by
  have h1 := (Array.getElem?_eq_some_iff.1 h.1).1
  have h2 := (Array.getElem?_eq_some_iff.1 h.2).1
  exact ⟨(hg.block l h1 (fun e => by have := hr l e.symm; omega)).trans h.1, (hg.block D h2 (fun e => by have := hr D e.symm; omega)).trans h.2⟩

/-- The statement 'for .. := range g', g a closure that keeps what SeqO says. -/
theorem rangeO {α : Type} {g : Operand} {ps : Array Tmp} {assign body : Code} {Q : Exit → Act → World → Prop} {a : Act} {w : World}
    (hro : F.round = none) (h1 : 1 ≤ n) {gf : Nat} {lb : Array Value} (hg : a.eval g = .func (.func gf) #[] lb) (hFg : F.fn gf) (eg : ∀ args w, (callFunc gf args).run P w = .ok (.enter gf args) w)
    {encs : α → Array Value} {Res : Nat → Prop} {xs : List α} {w0 : World} (hseq : SeqO F (n - 1) P gf lb encs Res xs w0) (hb0 : Below w0.heap.size w0 w) (hps : ∀ x, (encs x).size = ps.size)
    (I : List α → World → Prop) (Ix : Code → List α → World → Prop) (hI : OwnFrom w.heap.size I) (hIx : ∀ c, OwnFrom w.heap.size (Ix c)) (M : World → Nat → Prop) (hM : MineOk w.heap.size I M) (hres : ∀ k, Res k → ¬ M w k) (h0 : I [] w)
    (Ax : α → Act → World → Prop) (hAx : ∀ x a', OwnFrom w.heap.size (fun (_ : Unit) W => Ax x a' W))
    (hassign : ∀ (l : Nat) (pre : List α) (x : α) (W : World) (K : Act → World → Prop), I pre W → w.heap.size ≤ W.heap.size →
      (∀ a' W', KeepsFrom w.heap.size W W' → Keep M W W' → I pre W' → Ax x a' W' → K a' W') →
      assign.wpIn (F.inRound l) (n - 1 - 1) P (Exit.then K (fun _ _ _ => False)) { tmps := (ps.zip (encs x)).foldl (fun t (p, v) => t.setIfInBounds p v) a.tmps, defers := [] } W)
    (hbody : ∀ (l : Nat) (pre : List α) (x : α) (rest : List α) (a' : Act) (W : World), xs = pre ++ x :: rest → w.heap.size ≤ W.heap.size → w.heap.size ≤ l → (∃ r, W.heap[l]? = some (.loop r)) → I pre W → Ax x a' W →
      body.wpIn (F.inRound l) (n - 1 - 1) P (leftBy w.heap.size M I Ix (pre ++ [x]) W) a' W)
    (hdone : ∀ (D : Nat) (W : World), w.heap.size ≤ D → I xs W → W.heap[D]? = some (.deferred (some [])) → Q .normal { a with defers := { target := .collected D, args := #[] } :: a.defers } W)
    (hstop : ∀ (D : Nat) (c : Code) (pre : List α) (W : World), w.heap.size ≤ D → pre <+: xs → Ix c pre W → W.heap[D]? = some (.deferred (some [])) →
      c.wpIn F n P Q { a with defers := { target := .collected D, args := #[] } :: a.defers } W) :
    (Code.rangeFunc g ps assign body).wpIn F n P Q a w := by
  refine wpIn_rangeFunc fun fn hfn => ?_
  rw [hro]
  let rec_ : LoopState → Option Code → Loop := fun st pe => { state := st, pending := pe, fn, tmps := a.tmps, params := ps, assign, body, defers := w.heap.size }
  obtain ⟨rc, hrc⟩ : ∃ r, r = rec_ := ⟨_, rfl⟩
  obtain ⟨D, hD⟩ : ∃ D, D = w.heap.size := ⟨_, rfl⟩
  obtain ⟨l, hl⟩ : ∃ l, l = w.heap.size + 1 := ⟨_, rfl⟩
  obtain ⟨W1, hW1⟩ : ∃ W1, W1 = (w.alloc (.deferred (some []))).alloc (.loop (rc .ready none)) := ⟨_, rfl⟩
  have hsz : W1.heap.size = w.heap.size + 2 := by rw [hW1]; simp
  have hK1 : Kept D l (rc .ready none) W1 := by
    constructor
    · rw [hW1, hl]; have := World.alloc_heap_new (w.alloc (.deferred (some []))) (.loop (rc .ready none)); rwa [World.size_alloc] at this
    · rw [hW1, hD]; exact (Below.heap_alloc _ _ _ (by simp)).trans (World.alloc_heap_new w _)
  have hb1 : Below w0.heap.size w0 W1 := by
    rw [hW1]; exact hb0.trans ((((Below.refl _ w).alloc (Nat.le_refl _) _).alloc (by simp) _).mono hb0.size)
  have hown : ∀ {A : World} {row : Option Nat}, (∀ r, row = some r → W1.heap.size ≤ r ∧ ∃ o : Obj, A.heap[r]? = some o ∧ o.isCells = false) → (∀ r, row = some r → w.heap.size ≤ r ∧ ∃ o : Obj, A.heap[r]? = some o ∧ o.isCells = false) :=
    fun hr r e => ⟨by have := (hr r e).1; omega, (hr r e).2⟩
  refine ⟨l, [{ target := .collected D, args := #[] }], W1, { target := .fn (.func gf) lb, args := #[.func (.yield l) #[] #[]] }, W1, gf, #[.func (.yield l) #[] #[]] ++ lb, W1, ?_, ?_, ?_, ?_, fun _ => h1, ?_⟩
  · rw [hW1, hrc, hl, hD]; exact run_enterLoop_outer _ _ _ _ _
  · simp only [resolve, hg]; simp [go_sem]
  · intro f' hf'; simp [Target.leads] at hf'; subst hf'; exact hFg
  · simp [invoke, go_sem, eg]
  refine (hseq l (fun pre W => I pre W ∧ w.heap.size ≤ W.heap.size ∧ Kept D l (rc .ready none) W) (fun pre W => ∃ c, Ix c pre W ∧ Kept D l (rc .done (some c)) W) M W1 hb1
    (fun s A B row hs hg' hr => ⟨hI s A B row hs.1 hg' (hown hr), Nat.le_trans hs.2.1 hg'.size, hs.2.2.grown hg' (B := W1.heap.size) (by omega) (by omega) (fun r e => (hr r e).1)⟩)
    (fun s A B row hs hg' hr => by
      obtain ⟨c, hc, hk⟩ := hs
      exact ⟨c, hIx c s A B row hc hg' (hown hr), hk.grown hg' (B := W1.heap.size) (by omega) (by omega) (fun r e => (hr r e).1)⟩)
    ((hM.le (by omega)).of fun s W h => ⟨s, h.1⟩)
    (fun k hk => by
      rw [hW1]
      intro hm
      exact hres k hk (hM.grown [] _ _ none k h0 (World.grownBy_alloc w _ none) (fun r e => by cases e) (hM.grown [] _ _ none k (hI.alloc _ h0) (World.grownBy_alloc _ _ none) (fun r e => by cases e) hm)))
    ?_ ⟨by rw [hW1]; exact hI.alloc _ (hI.alloc _ h0), by omega, hK1⟩).mono ?_
  · rintro pre x rest W hxs ⟨hi, hws, hkl, hkd⟩
    have hy := run_yield (P := P) (args := encs x) hkl (by rw [hrc]; exact hps x)
    rw [hrc] at hy
    refine ⟨fn, _, assign, body, hy, roundIn_of_wpIn hfn (hassign l pre x W _ hi hws ?_)⟩
    clear hy
    intro a' Wa hkf hbw hia hax
    have hla := hkf.same _ _ (by omega) hkl rfl
    have hda := hkf.same _ _ (by omega) hkd rfl
    have hlt : l < Wa.heap.size := (Array.getElem?_eq_some_iff.1 hla).1
    refine ⟨_, run_beginRound hla (by rw [hrc]), ?_⟩
    have hl2 : (Wa.putObj l (.loop { rc .ready none with state := .busy })).heap[l]? = some (.loop { rc .ready none with state := .busy }) := World.putObj_heap_same hlt
    have hd2 : (Wa.putObj l (.loop { rc .ready none with state := .busy })).heap[D]? = some (.deferred (some [])) := (World.putObj_heap_other (by omega)).trans hda
    refine wpIn_mono (hbody l pre x rest a' _ hxs (by have := hbw.size; rw [World.putObj_size]; omega) (by omega) ⟨_, hl2⟩ (hI.putObj _ hia (by omega) hla rfl) ((hAx x a').putObj (s := ()) _ hax (by omega) hla rfl)) ?_
    have fin : ∀ (jump : Option Code) (W3 : World), KeepsFrom w.heap.size (Wa.putObj l (.loop { rc .ready none with state := .busy })) W3 →
        (Instr.endRound l jump).run P W3 = .ok (.bool jump.isNone) (W3.putObj l (.loop (rc (if jump.isNone then .ready else .done) jump))) ∧
        W3.heap[l]? = some (.loop { rc .ready none with state := .busy }) ∧ Kept D l (rc (if jump.isNone then .ready else .done) jump) (W3.putObj l (.loop (rc (if jump.isNone then .ready else .done) jump))) := fun jump W3 hk3 => by
      have hl3 := hk3.same _ _ (by omega) hl2 rfl
      have hd3 := hk3.same _ _ (by omega) hd2 rfl
      have hr := run_endRound (P := P) jump hl3
      rw [hrc] at hr ⊢
      rw [hrc] at hl3
      exact ⟨hr, hl3, World.putObj_heap_same (Array.getElem?_eq_some_iff.1 hl3).1, (World.putObj_heap_other (by omega)).trans hd3⟩
    have hkf2 : ∀ (o : Obj) (W3 : World), KeepsFrom w.heap.size (Wa.putObj l (.loop { rc .ready none with state := .busy })) W3 → KeepsFrom W1.heap.size W (W3.putObj l o) := fun o W3 hk3 =>
      (KeepsFrom.le hkf (by omega)).trans ((KeepsFrom.of_grownBy (grownBy_putObj' Wa l _) (fun j e => by cases e; omega)).trans ((KeepsFrom.le hk3 (by omega)).trans (KeepsFrom.of_grownBy (grownBy_putObj' W3 l _) (fun j e => by cases e; omega))))
    have leave : ∀ (o : Obj) (W3 : World), KeepC M (Wa.putObj l (.loop { rc .ready none with state := .busy })) W3 → KeepC M W (W3.putObj l o) := fun o W3 hc b off v hcell hm => by
      have hkl' : W.heap[l]? = some (.loop (rc .ready none)) := hkl
      have hbl : b ≠ l := fun e => by
        rw [e] at hcell
        unfold World.cell? at hcell
        simp [hkl'] at hcell
      have h1 := hbw.cell hm hcell
      have h2 : (Wa.putObj l (.loop { rc .ready none with state := .busy })).cell? ⟨b, off, none⟩ = some v := (World.cell?_of_block (w := Wa) (a := ⟨b, off, none⟩) (World.putObj_heap_other hbl)).trans h1
      have h3 : ¬ M (Wa.putObj l (.loop { rc .ready none with state := .busy })) b := fun hm' =>
        hbw.other b (World.block_lt_of_cell? W _ hcell) hm (hM.grown pre Wa _ (some l) b hia (grownBy_putObj' Wa l _) (fun r e => by cases e; exact ⟨by omega, _, hla, rfl⟩) hm')
      exact (World.cell?_of_block (w := W3) (a := ⟨b, off, none⟩) (World.putObj_heap_other hbl)).trans (hc b off v h2 h3)
    rintro e a3 W3 hp
    cases e with
    | normal =>
      obtain ⟨hk3, hkp3, hi3⟩ := hp
      obtain ⟨hr, hl3, hk4⟩ := fin none W3 hk3
      have hs3 : w.heap.size ≤ W3.heap.size := by have e1 := hk3.size; have e2 := hbw.size; rw [World.putObj_size] at e1; omega
      refine ⟨_, _, hr, .inl ⟨rfl, ⟨hI.putObj _ hi3 (by omega) hl3 rfl, by rw [World.putObj_size]; exact hs3, hk4⟩, ?_, hkf2 _ _ hk3⟩⟩
      have o1 : ∀ k, k < W.heap.size → ¬ M W k → ¬ M (Wa.putObj l (.loop { rc .ready none with state := .busy })) k := fun k hk hm hm' =>
        hbw.other k hk hm (hM.grown pre Wa _ (some l) k hia (grownBy_putObj' Wa l _) (fun r e => by cases e; exact ⟨by omega, _, hla, rfl⟩) hm')
      have o2 : ∀ k, k < W.heap.size → ¬ M W k → ¬ M W3 k := fun k hk hm => hkp3.other k (by rw [World.putObj_size]; have := hbw.size; omega) (o1 k hk hm)
      refine ⟨by rw [World.putObj_size]; have e1 := hk3.size; have e2 := hbw.size; rw [World.putObj_size] at e1; omega, fun k hk hm => ?_, fun k hk hm hm' => ?_⟩
      · by_cases e : k = l
        · rw [e]; exact hk4.1.trans hkl.symm
        · rw [World.putObj_heap_other e, hkp3.same k (by rw [World.putObj_size]; have := hbw.size; omega) (o1 k hk hm), World.putObj_heap_other e]
          exact hbw.same k hk hm
      · exact o2 k hk hm (hM.grown _ W3 _ (some l) k hi3 (grownBy_putObj' W3 l _) (fun r e => by cases e; exact ⟨by omega, _, hl3, rfl⟩) hm')
    | ret =>
      obtain ⟨hk3, hkc3, hi3⟩ := hp
      obtain ⟨hr, hl3, hk4⟩ := fin (some .ret) W3 hk3
      exact ⟨_, _, hr, .inr ⟨rfl, ⟨.ret, (hIx _).putObj _ hi3 (by omega) hl3 rfl, hk4⟩, hkf2 _ _ hk3, leave _ _ hkc3⟩⟩
    | exit id =>
      obtain ⟨hk3, hkc3, hi3⟩ := hp
      obtain ⟨hr, hl3, hk4⟩ := fin (some (.exit id)) W3 hk3
      exact ⟨_, _, hr, .inr ⟨rfl, ⟨.exit id, (hIx _).putObj _ hi3 (by omega) hl3 rfl, hk4⟩, hkf2 _ _ hk3, leave _ _ hkc3⟩⟩
    | goto t =>
      obtain ⟨hk3, hkc3, hi3⟩ := hp
      obtain ⟨hr, hl3, hk4⟩ := fin (some (.goto t)) W3 hk3
      exact ⟨_, _, hr, .inr ⟨rfl, ⟨.goto t, (hIx _).putObj _ hi3 (by omega) hl3 rfl, hk4⟩, hkf2 _ _ hk3, leave _ _ hkc3⟩⟩
    | panic ch => exact hp.elim
    | outgrown => exact hp.elim
  · rintro e W2 ⟨⟨v, rfl⟩, (⟨hi, hws, hkl, hkd⟩ | ⟨pre, hpre, c, hi, hkl, hkd⟩)⟩
    · exact ⟨none, _, by have := run_endLoop (P := P) hkl (by rw [hrc]; simp [rec_]); rw [hrc] at this; exact this, hdone D _ (by omega) (hI.putObj _ hi (by omega) hkl rfl) ((World.putObj_heap_other (by omega)).trans hkd)⟩
    · exact ⟨some c, _, by have := run_endLoop (P := P) hkl (by rw [hrc]; simp [rec_]); rw [hrc] at this; exact this, hstop D c pre _ (by omega) hpre ((hIx c).putObj _ hi (by omega) hkl rfl) ((World.putObj_heap_other (by omega)).trans hkd)⟩


/-- The loop's record, in a round of another loop. -/
def KeptN (l : Nat) (rec : Loop) (W : World) : Prop := W.heap[l]? = some (.loop rec)

theorem KeptN.grown {l : Nat} {rec : Loop} {B : Nat} {W W' : World} {row : Option Nat} (h : KeptN l rec W) (hg : W.grownBy W' row) (hl : l < B) (hr : ∀ r, row = some r → B ≤ r) : KeptN l rec W' :=
  (hg.block l (Array.getElem?_eq_some_iff.1 h).1 (fun e => by have := hr l e.symm; omega)).trans h

theorem SeqO.inRound {α : Type} {g : Nat} {lb : Array Value} {encs : α → Array Value} {Res : Nat → Prop} {xs : List α} {w : World} (l : Nat) (h : SeqO F n P g lb encs Res xs w) : SeqO (F.inRound l) n P g lb encs Res xs w := h

/-- The same statement in a round of another one. -/
theorem rangeN {α : Type} {g : Operand} {ps : Array Tmp} {assign body : Code} {Q : Exit → Act → World → Prop} {a : Act} {w : World}
    {l₀ : Nat} {r₀ : Loop} (hro : F.round = some l₀) (hl₀ : w.heap[l₀]? = some (.loop r₀)) (h1 : 1 ≤ n) {gf : Nat} {lb : Array Value} (hg : a.eval g = .func (.func gf) #[] lb) (hFg : F.fn gf) (eg : ∀ args w, (callFunc gf args).run P w = .ok (.enter gf args) w)
    {encs : α → Array Value} {Res : Nat → Prop} {xs : List α} {w0 : World} (hseq : SeqO F (n - 1) P gf lb encs Res xs w0) (hb0 : Below w0.heap.size w0 w) (hps : ∀ x, (encs x).size = ps.size)
    (I : List α → World → Prop) (Ix : Code → List α → World → Prop) (hI : OwnFrom w.heap.size I) (hIx : ∀ c, OwnFrom w.heap.size (Ix c)) (M : World → Nat → Prop) (hM : MineOk w.heap.size I M) (hres : ∀ k, Res k → ¬ M w k) (h0 : I [] w)
    (Ax : α → Act → World → Prop) (hAx : ∀ x a', OwnFrom w.heap.size (fun (_ : Unit) W => Ax x a' W))
    (hassign : ∀ (l : Nat) (pre : List α) (x : α) (W : World) (K : Act → World → Prop), I pre W → w.heap.size ≤ W.heap.size →
      (∀ a' W', KeepsFrom w.heap.size W W' → Keep M W W' → I pre W' → Ax x a' W' → K a' W') →
      assign.wpIn (F.inRound l) (n - 1 - 1) P (Exit.then K (fun _ _ _ => False)) { tmps := (ps.zip (encs x)).foldl (fun t (p, v) => t.setIfInBounds p v) a.tmps, defers := [] } W)
    (hbody : ∀ (l : Nat) (pre : List α) (x : α) (rest : List α) (a' : Act) (W : World), xs = pre ++ x :: rest → w.heap.size ≤ W.heap.size → w.heap.size ≤ l → (∃ r, W.heap[l]? = some (.loop r)) → I pre W → Ax x a' W →
      body.wpIn (F.inRound l) (n - 1 - 1) P (leftBy w.heap.size M I Ix (pre ++ [x]) W) a' W)
    (hdone : ∀ (W : World), I xs W → Q .normal a W)
    (hstop : ∀ (c : Code) (pre : List α) (W : World), pre <+: xs → Ix c pre W → c.wpIn F n P Q a W) :
    (Code.rangeFunc g ps assign body).wpIn F n P Q a w := by
  refine wpIn_rangeFunc fun fn hfn => ?_
  rw [hro]
  let rec_ : LoopState → Option Code → Loop := fun st pe => { state := st, pending := pe, fn, tmps := a.tmps, params := ps, assign, body, defers := r₀.defers }
  obtain ⟨rc, hrc⟩ : ∃ r, r = rec_ := ⟨_, rfl⟩
  obtain ⟨l, hl⟩ : ∃ l, l = w.heap.size := ⟨_, rfl⟩
  obtain ⟨W1, hW1⟩ : ∃ W1, W1 = w.alloc (.loop (rc .ready none)) := ⟨_, rfl⟩
  have hsz : W1.heap.size = w.heap.size + 1 := by rw [hW1]; simp
  have hK1 : KeptN l (rc .ready none) W1 := by
    unfold KeptN
    rw [hW1, hl]
    exact World.alloc_heap_new w _
  have hb1 : Below w0.heap.size w0 W1 := by
    rw [hW1]; exact hb0.trans (((Below.refl _ w).alloc (Nat.le_refl _) _).mono hb0.size)
  have hown : ∀ {A : World} {row : Option Nat}, (∀ r, row = some r → W1.heap.size ≤ r ∧ ∃ o : Obj, A.heap[r]? = some o ∧ o.isCells = false) → (∀ r, row = some r → w.heap.size ≤ r ∧ ∃ o : Obj, A.heap[r]? = some o ∧ o.isCells = false) :=
    fun hr r e => ⟨by have := (hr r e).1; omega, (hr r e).2⟩
  refine ⟨l, [], W1, { target := .fn (.func gf) lb, args := #[.func (.yield l) #[] #[]] }, W1, gf, #[.func (.yield l) #[] #[]] ++ lb, W1, ?_, ?_, ?_, ?_, fun _ => h1, ?_⟩
  · rw [hW1, hrc, hl]; exact run_enterLoop_inner hl₀ _ _ _ _ _
  · simp only [resolve, hg]; simp [go_sem]
  · intro f' hf'; simp [Target.leads] at hf'; subst hf'; exact hFg
  · simp [invoke, go_sem, eg]
  refine (hseq l (fun pre W => I pre W ∧ w.heap.size ≤ W.heap.size ∧ KeptN l (rc .ready none) W) (fun pre W => ∃ c, Ix c pre W ∧ KeptN l (rc .done (some c)) W) M W1 hb1
    (fun s A B row hs hg' hr => ⟨hI s A B row hs.1 hg' (hown hr), Nat.le_trans hs.2.1 hg'.size, hs.2.2.grown hg' (B := W1.heap.size) (by omega) (fun r e => (hr r e).1)⟩)
    (fun s A B row hs hg' hr => by
      obtain ⟨c, hc, hk⟩ := hs
      exact ⟨c, hIx c s A B row hc hg' (hown hr), hk.grown hg' (B := W1.heap.size) (by omega) (fun r e => (hr r e).1)⟩)
    ((hM.le (by omega)).of fun s W h => ⟨s, h.1⟩)
    (fun k hk => by
      rw [hW1]
      intro hm
      exact hres k hk (hM.grown [] _ _ none k h0 (World.grownBy_alloc w _ none) (fun r e => by cases e) hm))
    ?_ ⟨by rw [hW1]; exact hI.alloc _ h0, by omega, hK1⟩).mono ?_
  · rintro pre x rest W hxs ⟨hi, hws, hkl⟩
    have hy := run_yield (P := P) (args := encs x) hkl (by rw [hrc]; exact hps x)
    rw [hrc] at hy
    refine ⟨fn, _, assign, body, hy, roundIn_of_wpIn hfn (hassign l pre x W _ hi hws ?_)⟩
    clear hy
    intro a' Wa hkf hbw hia hax
    have hla := hkf.same _ _ (by omega) hkl rfl
    have hlt : l < Wa.heap.size := (Array.getElem?_eq_some_iff.1 hla).1
    refine ⟨_, run_beginRound hla (by rw [hrc]), ?_⟩
    have hl2 : (Wa.putObj l (.loop { rc .ready none with state := .busy })).heap[l]? = some (.loop { rc .ready none with state := .busy }) := World.putObj_heap_same hlt
    refine wpIn_mono (hbody l pre x rest a' _ hxs (by have := hbw.size; rw [World.putObj_size]; omega) (by omega) ⟨_, hl2⟩ (hI.putObj _ hia (by omega) hla rfl) ((hAx x a').putObj (s := ()) _ hax (by omega) hla rfl)) ?_
    have fin : ∀ (jump : Option Code) (W3 : World), KeepsFrom w.heap.size (Wa.putObj l (.loop { rc .ready none with state := .busy })) W3 →
        (Instr.endRound l jump).run P W3 = .ok (.bool jump.isNone) (W3.putObj l (.loop (rc (if jump.isNone then .ready else .done) jump))) ∧
        W3.heap[l]? = some (.loop { rc .ready none with state := .busy }) ∧ KeptN l (rc (if jump.isNone then .ready else .done) jump) (W3.putObj l (.loop (rc (if jump.isNone then .ready else .done) jump))) := fun jump W3 hk3 => by
      have hl3 := hk3.same _ _ (by omega) hl2 rfl
      have hr := run_endRound (P := P) jump hl3
      rw [hrc] at hr ⊢
      rw [hrc] at hl3
      exact ⟨hr, hl3, World.putObj_heap_same (Array.getElem?_eq_some_iff.1 hl3).1⟩
    have hkf2 : ∀ (o : Obj) (W3 : World), KeepsFrom w.heap.size (Wa.putObj l (.loop { rc .ready none with state := .busy })) W3 → KeepsFrom W1.heap.size W (W3.putObj l o) := fun o W3 hk3 =>
      (KeepsFrom.le hkf (by omega)).trans ((KeepsFrom.of_grownBy (grownBy_putObj' Wa l _) (fun j e => by cases e; omega)).trans ((KeepsFrom.le hk3 (by omega)).trans (KeepsFrom.of_grownBy (grownBy_putObj' W3 l _) (fun j e => by cases e; omega))))
    have leave : ∀ (o : Obj) (W3 : World), KeepC M (Wa.putObj l (.loop { rc .ready none with state := .busy })) W3 → KeepC M W (W3.putObj l o) := fun o W3 hc b off v hcell hm => by
      have hkl' : W.heap[l]? = some (.loop (rc .ready none)) := hkl
      have hbl : b ≠ l := fun e => by
        rw [e] at hcell
        unfold World.cell? at hcell
        simp [hkl'] at hcell
      have h1 := hbw.cell hm hcell
      have h2 : (Wa.putObj l (.loop { rc .ready none with state := .busy })).cell? ⟨b, off, none⟩ = some v := (World.cell?_of_block (w := Wa) (a := ⟨b, off, none⟩) (World.putObj_heap_other hbl)).trans h1
      have h3 : ¬ M (Wa.putObj l (.loop { rc .ready none with state := .busy })) b := fun hm' =>
        hbw.other b (World.block_lt_of_cell? W _ hcell) hm (hM.grown pre Wa _ (some l) b hia (grownBy_putObj' Wa l _) (fun r e => by cases e; exact ⟨by omega, _, hla, rfl⟩) hm')
      exact (World.cell?_of_block (w := W3) (a := ⟨b, off, none⟩) (World.putObj_heap_other hbl)).trans (hc b off v h2 h3)
    rintro e a3 W3 hp
    cases e with
    | normal =>
      obtain ⟨hk3, hkp3, hi3⟩ := hp
      obtain ⟨hr, hl3, hk4⟩ := fin none W3 hk3
      have hs3 : w.heap.size ≤ W3.heap.size := by have e1 := hk3.size; have e2 := hbw.size; rw [World.putObj_size] at e1; omega
      refine ⟨_, _, hr, .inl ⟨rfl, ⟨hI.putObj _ hi3 (by omega) hl3 rfl, by rw [World.putObj_size]; exact hs3, hk4⟩, ?_, hkf2 _ _ hk3⟩⟩
      have o1 : ∀ k, k < W.heap.size → ¬ M W k → ¬ M (Wa.putObj l (.loop { rc .ready none with state := .busy })) k := fun k hk hm hm' =>
        hbw.other k hk hm (hM.grown pre Wa _ (some l) k hia (grownBy_putObj' Wa l _) (fun r e => by cases e; exact ⟨by omega, _, hla, rfl⟩) hm')
      have o2 : ∀ k, k < W.heap.size → ¬ M W k → ¬ M W3 k := fun k hk hm => hkp3.other k (by rw [World.putObj_size]; have := hbw.size; omega) (o1 k hk hm)
      refine ⟨by rw [World.putObj_size]; have e1 := hk3.size; have e2 := hbw.size; rw [World.putObj_size] at e1; omega, fun k hk hm => ?_, fun k hk hm hm' => ?_⟩
      · by_cases e : k = l
        · rw [e]; exact hk4.trans hkl.symm
        · rw [World.putObj_heap_other e, hkp3.same k (by rw [World.putObj_size]; have := hbw.size; omega) (o1 k hk hm), World.putObj_heap_other e]
          exact hbw.same k hk hm
      · exact o2 k hk hm (hM.grown _ W3 _ (some l) k hi3 (grownBy_putObj' W3 l _) (fun r e => by cases e; exact ⟨by omega, _, hl3, rfl⟩) hm')
    | ret =>
      obtain ⟨hk3, hkc3, hi3⟩ := hp
      obtain ⟨hr, hl3, hk4⟩ := fin (some .ret) W3 hk3
      exact ⟨_, _, hr, .inr ⟨rfl, ⟨.ret, (hIx _).putObj _ hi3 (by omega) hl3 rfl, hk4⟩, hkf2 _ _ hk3, leave _ _ hkc3⟩⟩
    | exit id =>
      obtain ⟨hk3, hkc3, hi3⟩ := hp
      obtain ⟨hr, hl3, hk4⟩ := fin (some (.exit id)) W3 hk3
      exact ⟨_, _, hr, .inr ⟨rfl, ⟨.exit id, (hIx _).putObj _ hi3 (by omega) hl3 rfl, hk4⟩, hkf2 _ _ hk3, leave _ _ hkc3⟩⟩
    | goto t =>
      obtain ⟨hk3, hkc3, hi3⟩ := hp
      obtain ⟨hr, hl3, hk4⟩ := fin (some (.goto t)) W3 hk3
      exact ⟨_, _, hr, .inr ⟨rfl, ⟨.goto t, (hIx _).putObj _ hi3 (by omega) hl3 rfl, hk4⟩, hkf2 _ _ hk3, leave _ _ hkc3⟩⟩
    | panic ch => exact hp.elim
    | outgrown => exact hp.elim
  · rintro e W2 ⟨⟨v, rfl⟩, (⟨hi, hws, hkl⟩ | ⟨pre, hpre, c, hi, hkl⟩)⟩
    · exact ⟨none, _, by have := run_endLoop (P := P) hkl (by rw [hrc]; simp [rec_]); rw [hrc] at this; exact this, hdone _ (hI.putObj _ hi (by omega) hkl rfl)⟩
    · exact ⟨some c, _, by have := run_endLoop (P := P) hkl (by rw [hrc]; simp [rec_]); rw [hrc] at this; exact this, hstop c pre _ hpre ((hIx c).putObj _ hi (by omega) hkl rfl)⟩

end Go.Proofs.Ytohahlnhbppnhaa

namespace Go.Proofs.Ytohahlnhbppnhaa
open Go.RowKit

/-- Where the array lies behind an append: where it lay, or in the new block. -/
theorem append_block {P : Program} (w : World) (base : Nat) (t ty e : TypeId) (i : TypeInfo) (z : Value) (size bytes : Nat) (ht : P.underlying t = some (.slice e)) (hi : P.info? e = some i) (hz : i.zero = some z)
    (hsize : i.size = size) (hby : i.bytes = bytes) (v : Value) (n : Nat) (xs : List Value) (hown : w.ownsRow base e size v n xs)
    (a : Addr) (m c : Nat) (news : List Value) (hl : news.length = m * size) (hnews : ∀ j u, news[j]? = some u → w.cell? (a.add j) = some u) (h1 : ∀ u ∈ news, u.oneCell' = true) (h0 : 0 < m)
    (h63 : n + m ≤ maxLen) (hbytes : (n + m) * bytes ≤ 140737488355328) (v' : Value) (w' : World)
    (hr : (Builtin.append_ #[t, t] ty #[v, .slice (some a) m c]).run P w = .ok v' w') : v'.ownBlock = v.ownBlock ∨ v'.ownBlock = some w.heap.size := by
  subst hsize
  subst hby
  have hsmall : n + m ≤ 9223372036854775807 := by simp only [maxLen] at h63; omega
  rcases hown.2 with ⟨rfl, rfl⟩ | ⟨g, cap, cur, rfl, hbg, hg, hnc, hcm, hcs, htake⟩
  · rw [run_append_nil (P := P) w t ty e i z ht hi hz a m c news hl hnews h0 (by omega) (by have hb := hbytes; simp only [Nat.zero_add] at hb; omega)] at hr
    cases hr
    exact .inr rfl
  · by_cases hroom : n + m ≤ cap
    · have hfit : n * i.size + news.length ≤ cur.size := by rw [hl, hcs, ← Nat.add_mul]; exact Nat.mul_le_mul_right _ hroom
      rw [run_append_room (P := P) w t ty e i ht hi g n cap cur hg a m c news hl hnews h1 hroom hfit] at hr
      cases hr
      exact .inl rfl
    · have holds : ∀ j u, xs[j]? = some u → w.cell? ((⟨g, 0, none⟩ : Addr).add j) = some u := hown.cells (g := g) rfl
      rw [run_append_grow (P := P) w t ty e i z ht hi hz ⟨g, 0, none⟩ n cap xs hown.1 holds a m c news hl hnews (by omega) (by omega) (growslice_fits (by omega) hbytes)] at hr
      cases hr
      exact .inr rfl

/-- The append of a slice that the call owns, with where its array lies behind it. -/
theorem wpListIn_append_at {F : Fence} {n : Nat} {P : Program} (w : World) {ops : Array Oper} {rest : List Oper} {o : Oper} {a : Act} {Q : Exit → Act → World → Prop}
    (hg : o.guard = none) (s x : Operand) (t : TypeId) (hop : o.op = Op.call { callee := Callee.builtin Builtin.append, args := #[s, x], argTypes := #[t, t] })
    (base : Nat) (e : TypeId) (i : TypeInfo) (z : Value) (size bytes : Nat) (h1 : P.underlying t = some (.slice e)) (h2 : P.info? e = some i) (h3 : i.zero = some z) (h4 : i.size = size) (h5 : i.bytes = bytes) (h6 : z.cells.size = size) (h7 : 0 < size)
    (v : Value) (k : Nat) (xs : List Value) (hs : a.eval s = v) (hown : w.ownsRow base e size v k xs) (ad : Addr) (m c : Nat) (news : List Value) (hx : a.eval x = .slice (some ad) m c) (hn : news.length = m * size)
    (hc : ∀ j u, news[j]? = some u → w.cell? (ad.add j) = some u) (h1c : ∀ u ∈ news, u.oneCell' = true) (h0 : 0 < m) (b1 : k + m ≤ maxLen) (b2 : (k + m) * bytes ≤ 140737488355328) (b3 : base ≤ w.heap.size)
    (hK : ∀ v' w', w'.ownsRow base e size v' (k + m) (xs ++ news) → w.grownBy w' v.ownBlock → (v'.ownBlock = v.ownBlock ∨ v'.ownBlock = some w.heap.size) → wpListIn F n P ops Q rest (a.put o.dst v') w') :
    wpListIn F n P ops Q (o :: rest) a w := by
  refine wpListIn_plain hg fun K hK' => ?_
  obtain ⟨v', w', hrun, r1, r2, _⟩ := run_append_own (P := P) w base t o.type e i z size bytes h1 h2 h3 h4 h5 h6 h7 v k xs hown ad m c news hn hc h1c b1 b2 b3
  have r4 := append_block w base t o.type e i z size bytes h1 h2 h3 h4 h5 v k xs hown ad m c news hn hc h1c h0 b1 b2 v' w' hrun
  refine ⟨by simp [Oper.about, hop, resolve, Target.leads, Sem.run_pure], ?_⟩
  rw [Oper.semAt_plain F _ _ (by rw [hop]; intro c hc'; cases hc')]
  simp only [execOp, hop, resolve, invoke, builtin, Sem.run_bind, Sem.run_pure, Result.andThen_ok, List.map_toArray, List.map_cons, List.map_nil, hs, hx, hrun]
  exact hK' _ _ (hK v' w' r1 r2 r4)

/-- The blocks that a body may write which appends to the slice in box B: the box, and the slice's array. -/
def Mine (B : Nat) (W : World) (k : Nat) : Prop := k = B ∨ ∃ v, W.cell? ⟨B, 0, none⟩ = some v ∧ v.ownBlock = some k

theorem mine_iff {B : Nat} {W : World} {t : TypeId} {v : Value} (h : Boxed W B t v) (k : Nat) : Mine B W k ↔ k = B ∨ v.ownBlock = some k := by
  unfold Mine
  rw [h.cell]
  constructor
  · rintro (e | ⟨v', e, h⟩)
    · exact .inl e
    · cases e; exact .inr h
  · rintro (e | h)
    · exact .inl e
    · exact .inr ⟨v, rfl, h⟩

theorem mine_ok {β : Type} {n₀ B B0 : Nat} {t e : TypeId} {size : Nat} {J : β → World → Prop} (hJ : ∀ s W, J s W → ∃ v n xs, Boxed W B t v ∧ W.ownsRow n₀ e size v n xs) : MineOk B0 J (Mine B) := by
  constructor
  · intro s W k hs hm
    obtain ⟨v, n, xs, hb, hr⟩ := hJ s W hs
    rcases (mine_iff hb k).1 hm with rfl | h
    · exact hb.lt
    · exact (hr.lt k h).2
  · intro s W W' row k hs hg hr hm
    obtain ⟨v, n, xs, hb, hrow⟩ := hJ s W hs
    have hb' : Boxed W' B t v := hb.kept hg (fun e' => by
      obtain ⟨_, o, ho, hc⟩ := hr B e'.symm
      rw [show W.heap[B]? = _ from hb] at ho; cases ho; cases hc)
    exact (mine_iff hb k).2 ((mine_iff hb' k).1 hm)

/-- Behind the append and the store into the box: all other blocks are kept. -/
theorem mine_appended {W w1 : World} {n₀ B : Nat} {t e : TypeId} {size : Nat} {v v' : Value} {k m : Nat} {xs ys : List Value} {tmp : Obj}
    (hv : Boxed W B t v) (hte : t ≠ e) (hrow : W.ownsRow n₀ e size v k xs) (hn₀ : n₀ ≤ W.heap.size) (hB : n₀ ≤ B)
    (hown' : w1.ownsRow n₀ e size v' m ys) (hgrow : (W.alloc tmp).grownBy w1 v.ownBlock) (hat : v'.ownBlock = v.ownBlock ∨ v'.ownBlock = some (W.alloc tmp).heap.size) :
    Keep (Mine B) W (w1.setCell ⟨B, 0, none⟩ v') := by
  obtain ⟨_, h2, _, _, _⟩ := hv.appended hte hrow hn₀ hB hown' hgrow
  have hs := hgrow.size
  rw [World.size_alloc] at hs hat
  refine ⟨by rw [World.setCell]; simp; omega, fun j hj hm => ?_, fun j hj hm hm' => ?_⟩
  · rw [mine_iff hv] at hm
    rw [Below.heap_setCell _ _ _ _ (fun e => hm (.inl e))]
    rw [hgrow.block j (by rw [World.size_alloc]; omega) (fun e => hm (.inr e.symm)), Below.heap_alloc _ _ _ hj]
  · rw [mine_iff hv] at hm
    rcases (mine_iff h2 j).1 hm' with e | e
    · exact hm (.inl e)
    · rcases hat with h | h
      · exact hm (.inr (h ▸ e))
      · rw [e] at h; cases h; omega

/-- Numbers two by two. -/
def flat2 : List (Int × Int) → List Value
  | [] => []
  | x :: xs => .int .i64 x.1 :: .int .i64 x.2 :: flat2 xs

theorem flat2_append (xs ys : List (Int × Int)) : flat2 (xs ++ ys) = flat2 xs ++ flat2 ys := by
  induction xs with
  | nil => rfl
  | cons x xs ih => simp [flat2, ih]

theorem flat2_length (xs : List (Int × Int)) : (flat2 xs).length = xs.length * 2 := by
  induction xs with
  | nil => rfl
  | cons x xs ih => simp [flat2, ih]; omega

theorem flat2_get (xs : List (Int × Int)) : ∀ i, i < xs.length → (flat2 xs)[i * 2]? = some (.int .i64 (xs.getD i (0, 0)).1) ∧ (flat2 xs)[i * 2 + 1]? = some (.int .i64 (xs.getD i (0, 0)).2) := by
  induction xs with
  | nil => intro i h; simp at h
  | cons x xs ih =>
    intro i h
    cases i with
    | zero => simp [flat2]
    | succ i =>
      have := ih i (by simpa using h)
      rw [show (i + 1) * 2 = i * 2 + 2 from by omega]
      simpa [flat2] using this

end Go.Proofs.Ytohahlnhbppnhaa
