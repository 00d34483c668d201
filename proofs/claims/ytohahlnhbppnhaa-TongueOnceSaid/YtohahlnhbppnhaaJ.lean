/- Tongue: the least costs of what is left, in numbers; a table of them by places, as it lies in memory. -/
import Derived.Test.YtohahlnhbppnhaaD
import Derived.Test.YtohahlnhbppnhaaE
import Derived.Test.YtohahlnhbppnhaaI
import Derived.Maps.OwnIn
import Derived.Maps.Views
import Derived.Maps.OwnSet
import Derived.DeepKeys4
namespace Go.Proofs.Ytohahlnhbppnhaa
open Go.RowKit Go.Maps
set_option linter.unusedSimpArgs false
set_option linter.unusedVariables false

/-- What a step costs at a place. -/
def priceAt (L R : List Sen) (i k : Nat) (s : Nat × Nat) : Nat := priceM s.1 s.2 ((L.drop i).take s.1) ((R.drop k).take s.2)

/-- The least cost of all steps from a place to the end. -/
def restF (L R : List Sen) : Nat → Nat → Nat → Int
  | 0, _, _ => 0
  | n + 1, i, k => minL ((movesM L.length R.length i k).map fun s => (priceAt L R i k s : Int) + restF L R n (i + s.1) (k + s.2))

def restM (L R : List Sen) (i k : Nat) : Int := restF L R ((L.length - i) + (R.length - k)) i k

theorem mem_moves {nl nr i k : Nat} {s : Nat × Nat} (h : s ∈ movesM nl nr i k) : i + s.1 ≤ nl ∧ k + s.2 ≤ nr ∧ 1 ≤ s.1 + s.2 ∧ s.1 ≤ 2 ∧ s.2 ≤ 2 := by
  unfold movesM at h
  obtain ⟨h1, h2⟩ := List.mem_filter.1 h
  have : ∀ s ∈ kinds, 1 ≤ s.1 + s.2 ∧ s.1 ≤ 2 ∧ s.2 ≤ 2 := by decide
  have := this s h1
  simp only [fitsM, Bool.and_eq_true, decide_eq_true_eq] at h2
  omega

theorem restF_fuel (L R : List Sen) : ∀ (n i k : Nat), (L.length - i) + (R.length - k) ≤ n → restF L R n i k = restF L R ((L.length - i) + (R.length - k)) i k := by
  intro n
  induction n using Nat.strongRecOn with
  | _ n ih =>
    intro i k h
    cases n with
    | zero => rw [Nat.le_zero.1 h]
    | succ n =>
      cases hm : (L.length - i) + (R.length - k) with
      | zero =>
        rw [restF, restF]
        have : movesM L.length R.length i k = [] := by
          rw [List.eq_nil_iff_forall_not_mem]
          intro s hs
          have := mem_moves hs
          omega
        rw [this]
        rfl
      | succ m =>
        rw [restF, restF]
        congr 1
        apply List.map_congr_left
        intro s hs
        have hb := mem_moves hs
        congr 1
        rw [ih n (by omega) _ _ (by omega), ih m (by omega) _ _ (by omega)]

theorem restM_step (L R : List Sen) (i k : Nat) (hi : i ≤ L.length) (hk : k ≤ R.length) :
    restM L R i k = minL ((movesM L.length R.length i k).map fun s => (priceAt L R i k s : Int) + restM L R (i + s.1) (k + s.2)) := by
  unfold restM
  cases hm : (L.length - i) + (R.length - k) with
  | zero =>
    have : movesM L.length R.length i k = [] := by
      rw [List.eq_nil_iff_forall_not_mem]
      intro s hs
      have := mem_moves hs
      omega
    rw [this]
    rfl
  | succ m =>
    rw [restF]
    congr 1
    apply List.map_congr_left
    intro s hs
    have hb := mem_moves hs
    congr 1
    exact restF_fuel L R m _ _ (by omega)

theorem foldl_min_mem (x : Int) (L : List Int) : L.foldl min x = x ∨ L.foldl min x ∈ L := by
  induction L generalizing x with
  | nil => exact .inl rfl
  | cons y L ih =>
    rw [List.foldl_cons]
    rcases ih (min x y) with h | h
    · rw [h]
      rcases Int.le_total x y with e | e
      · rw [Int.min_eq_left e]; exact .inl rfl
      · rw [Int.min_eq_right e]; exact .inr (by simp)
    · exact .inr (by simp [h])

theorem minL_bd {L : List Int} {B : Int} (hB : 0 ≤ B) (h : ∀ x ∈ L, 0 ≤ x ∧ x ≤ B) : 0 ≤ minL L ∧ minL L ≤ B := by
  cases L with
  | nil => exact ⟨Int.le_refl _, hB⟩
  | cons x L =>
    have : minL (x :: L) ∈ x :: L := by
      rcases foldl_min_mem x L with e | e
      · show L.foldl min x ∈ _
        rw [e]; simp
      · exact List.mem_cons_of_mem _ e
    exact h _ this

theorem priceM_le (x y : Nat) (T U : List Sen) : priceM x y T U ≤ 2060 := by
  unfold priceM
  have := apartM_le T U
  have := sidesM_le 0 x y
  have := sidesM_le 2 x y
  omega

theorem restF_bd (L R : List Sen) (n : Nat) : ∀ i k, 0 ≤ restF L R n i k ∧ restF L R n i k ≤ 2060 * n := by
  induction n with
  | zero => intro i k; simp [restF]
  | succ n ih =>
    intro i k
    rw [restF]
    refine minL_bd (by omega) fun x hx => ?_
    obtain ⟨s, -, rfl⟩ := List.mem_map.1 hx
    have h1 := ih (i + s.1) (k + s.2)
    have h2 : priceAt L R i k s ≤ 2060 := priceM_le _ _ _ _
    omega

theorem restM_bd (L R : List Sen) (hL : L.length ≤ 1000) (hR : R.length ≤ 1000) (i k : Nat) : 0 ≤ restM L R i k ∧ restM L R i k ≤ 5000000 := by
  have := restF_bd L R ((L.length - i) + (R.length - k)) i k
  unfold restM
  omega

/-- A place, as a value. -/
def placeV (a b : Nat) : Value := .agg #[.int .i64 (a : Int), .int .i64 (b : Int)]

def keyM (a b : Nat) : Lit := .string (keyBytes [.int .i64 (a : Int), .int .i64 (b : Int)])

theorem Try.laidOut : laidOutB Try.prog = true := by kernel_rfl
theorem Try.row150 : (150 : TypeId) < Try.prog.types.size := of_decide_eq_true (by kernel_rfl)
theorem Try.wide150 : (match Try.prog.underlying 150 with | some (.array _ _) | some (.struct _) => true | _ => false) = true := by kernel_rfl
set_option maxRecDepth 100000 in
theorem Try.law150 : Keyed Try.prog 150 := Keyed.of_law (deep_law_laid Try.laidOut (m := 3) (by omega) Try.row150 (by kernel_rfl) Try.wide150)
theorem Try.zero3 (w : World) : (zeroValue 3).run Try.prog w = .ok (.int .i64 0) w := by kernel_rfl

theorem key_at (a b : Nat) (ha : a ≤ 1000) (hb : b ≤ 1000) : keyOf Try.prog 150 (placeV a b) = some (keyM a b) := by
  have wa : (Lit.int .i64 (a : Int)).wf = true := WalkArith.wf_i64 (by omega)
  have wb : (Lit.int .i64 (b : Int)).wf = true := WalkArith.wf_i64 (by omega)
  have hs : Try.prog.types.size + 1 = (Try.prog.types.size - 1) + 1 + 1 := by have h : (150 : Nat) < Try.prog.types.size := Try.row150; omega
  have e3 : ∀ (d : Nat) (x : Int), (Lit.int .i64 x).wf = true → Try.prog.keyLits (d + 1) 3 [.int .i64 x] = some [.int .i64 x] := fun d x hx => by
    unfold Program.keyLits
    rw [Try.underlying3]
    simp [hx]
  have hl : Try.prog.keyLits (Try.prog.types.size + 1) 150 [.int .i64 (a : Int), .int .i64 (b : Int)] = some [.int .i64 (a : Int), .int .i64 (b : Int)] := by
    rw [hs]
    unfold Program.keyLits
    rw [Try.underlying150]
    have c1 : Try.prog.cellsOf 150 = 2 := by kernel_rfl
    have c2 : Try.prog.cellsOf 3 = 1 := by kernel_rfl
    simp [c1, c2, e3 _ _ wa, e3 _ _ wb]
  unfold keyOf placeV
  rw [Try.underlying150]
  have h1 : Try.prog.keyType 150 = true := by kernel_rfl
  have h2 : Value.formed Try.prog 150 (.agg #[.int .i64 (a : Int), .int .i64 (b : Int)]) = true := by
    have c1 : Try.prog.cellsOf 150 = 2 := by kernel_rfl
    simp [Value.formed, Try.underlying150, c1]
  have h3 : (Value.agg #[.int .i64 (a : Int), .int .i64 (b : Int)]).cells.toList = [.int .i64 (a : Int), .int .i64 (b : Int)] := rfl
  simp only [h1, h2, h3, hl, Bool.and_self, if_true, Option.map_some]
  rfl

theorem keyM_inj {a b a' b' : Nat} (ha : a ≤ 1000) (hb : b ≤ 1000) (ha' : a' ≤ 1000) (hb' : b' ≤ 1000) (h : keyM a b = keyM a' b') : a = a' ∧ b = b' := by
  have h1 := key_at a b ha hb
  rw [h] at h1
  have := Try.law150.inj h1 (key_at a' b' ha' hb')
  unfold placeV at this
  simp only [Value.agg.injEq, Array.mk.injEq, List.cons.injEq, Value.int.injEq, and_true, true_and] at this
  omega

/-- A table in memory, that has what f says at these places. -/
def TableAt (w : World) (mb n : Nat) (f : Nat → Nat → Int) (T : List (Nat × Nat)) : Prop :=
  ∃ D : DataW Unit, w.ownsMap Try.prog 150 (plainElem Try.prog 3) mb n D ∧ ∀ p ∈ T, p.1 ≤ 1000 ∧ p.2 ≤ 1000 ∧ D.atKey (keyM p.1 p.2) (.lit (.int .i64 0)) = .lit (.int .i64 (f p.1 p.2))

theorem TableAt.made (w : World) (f : Nat → Nat → Int) : TableAt (w.alloc (.map #[] 0)) w.heap.size 0 f [] := ⟨_, World.ownsMap_made _ _ _ _, fun p hp => by cases hp⟩

theorem TableAt.kept {w w' : World} {row : Option Nat} {mb n : Nat} {f : Nat → Nat → Int} {T : List (Nat × Nat)} (h : TableAt w mb n f T) (hg : w.grownBy w' row) (hne : some mb ≠ row) : TableAt w' mb n f T :=
  let ⟨D, h1, h2⟩ := h
  ⟨D, h1.kept hg hne, h2⟩

theorem TableAt.lt {w : World} {mb n : Nat} {f : Nat → Nat → Int} {T : List (Nat × Nat)} (h : TableAt w mb n f T) : mb < w.heap.size := let ⟨_, h1, _⟩ := h; h1.lt

theorem TableAt.look {w : World} {mb n : Nat} {f : Nat → Nat → Int} {T : List (Nat × Nat)} (h : TableAt w mb n f T) {a b : Nat} (hp : (a, b) ∈ T) :
    (Instr.lookup 146 (.map (some mb)) (.agg #[.int .i64 (a : Int), .int .i64 (b : Int)]) false).run Try.prog w = .ok (.int .i64 (f a b)) w := by
  obtain ⟨D, h1, h2⟩ := h
  obtain ⟨ha, hb, hd⟩ := h2 _ hp
  obtain ⟨c, hrun, hat, _⟩ := h1.lookup_int (t := 146) Try.law150 Try.underlying146 Try.underlying3 (Try.zero3 w) (key_at a b ha hb)
  rw [hd] at hat
  simp only [DataW.lit.injEq, Lit.int.injEq, true_and] at hat
  rw [← hat] at hrun
  exact hrun

theorem TableAt.put {w : World} {mb n : Nat} {f : Nat → Nat → Int} {T : List (Nat × Nat)} (h : TableAt w mb n f T) (hn : n < maxLen) {a b : Nat} (ha : a ≤ 1000) (hb : b ≤ 1000) (hf : 0 ≤ f a b ∧ f a b ≤ 5000000) :
    ∃ w', (Instr.mapUpdate 146 (.map (some mb)) (.agg #[.int .i64 (a : Int), .int .i64 (b : Int)]) (.int .i64 (f a b))).run Try.prog w = .ok () w' ∧ TableAt w' mb (n + 1) f (T ++ [(a, b)]) ∧ w.grownBy w' (some mb) := by
  obtain ⟨D, h1, h2⟩ := h
  have hk := key_at a b ha hb
  obtain ⟨w', hrun, hown, hg⟩ := h1.update (t := 146) Try.law150 Try.underlying146 hn hk (plainElem_int Try.underlying3 (WalkArith.wf_i64 (n := f a b) (by omega)))
  refine ⟨w', hrun, ⟨_, hown, fun p hp => ?_⟩, hg⟩
  rcases List.mem_append.1 hp with hp | hp
  · obtain ⟨q1, q2, q3⟩ := h2 p hp
    refine ⟨q1, q2, ?_⟩
    by_cases e : keyM p.1 p.2 = keyM a b
    · obtain ⟨e1, e2⟩ := keyM_inj q1 q2 ha hb e
      rw [e1, e2]
      exact atKey_put_same h1.isMap (Try.law150.key hk) _ _
    · rw [atKey_put_other e]; exact q3
  · simp only [List.mem_singleton] at hp
    subst hp
    exact ⟨ha, hb, atKey_put_same h1.isMap (Try.law150.key hk) _ _⟩

theorem TableAt.setCell {w : World} {mb n : Nat} {f : Nat → Nat → Int} {T : List (Nat × Nat)} (h : TableAt w mb n f T) {a : Addr} (ha : mb ≠ a.block) (u : Value) : TableAt (w.setCell a u) mb n f T :=
  let ⟨D, h1, h2⟩ := h
  ⟨D, h1.setCell ha u, h2⟩

theorem TableAt.noCells {w : World} {mb n : Nat} {f : Nat → Nat → Int} {T : List (Nat × Nat)} (h : TableAt w mb n f T) : ∃ o : Obj, w.heap[mb]? = some o ∧ o.isCells = false :=
  let ⟨_, ⟨_, _, hb, _⟩, _⟩ := h
  ⟨_, hb, rfl⟩

end Go.Proofs.Ytohahlnhbppnhaa
