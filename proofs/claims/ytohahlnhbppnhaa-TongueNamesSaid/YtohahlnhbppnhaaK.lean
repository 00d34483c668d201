/- Tongue: the least costs of what is left, in numbers; a table of them by places, as it lies in memory. Tongue: the order of places; the makers of both iterators. -/
import Derived.Test.YtohahlnhbppnhaaE
import Derived.Test.YtohahlnhbppnhaaI
import Derived.Maps.OwnIn
import Derived.Maps.Views
import Derived.Maps.OwnSet
import Derived.DeepKeys4
namespace Go.Proofs.Ytohahlnhbppnhaa
open Go.RowKit Go.Maps
set_option linter.unusedSimpArgs false
set_option linter.unusedVariables false

/-- What a step costs at a place. -/
def priceAt (L R : List Sen) (i k : Nat) (s : Nat × Nat) : Nat := priceM s.1 s.2 ((L.drop i).take s.1) ((R.drop k).take s.2)

/-- The least cost of all steps from a place to the end. -/
def restF (L R : List Sen) : Nat → Nat → Nat → Int
  | 0, _, _ => 0
  | n + 1, i, k => minL ((movesM L.length R.length i k).map fun s => (priceAt L R i k s : Int) + restF L R n (i + s.1) (k + s.2))

def restM (L R : List Sen) (i k : Nat) : Int := restF L R ((L.length - i) + (R.length - k)) i k

theorem mem_moves {nl nr i k : Nat} {s : Nat × Nat} (h : s ∈ movesM nl nr i k) : i + s.1 ≤ nl ∧ k + s.2 ≤ nr ∧ 1 ≤ s.1 + s.2 ∧ s.1 ≤ 2 ∧ s.2 ≤ 2 := by
  unfold movesM at h
  obtain ⟨h1, h2⟩ := List.mem_filter.1 h
  have : ∀ s ∈ kinds, 1 ≤ s.1 + s.2 ∧ s.1 ≤ 2 ∧ s.2 ≤ 2 := by decide
  have := this s h1
  simp only [fitsM, Bool.and_eq_true, decide_eq_true_eq] at h2
  omega

theorem restF_fuel (L R : List Sen) : ∀ (n i k : Nat), (L.length - i) + (R.length - k) ≤ n → restF L R n i k = restF L R ((L.length - i) + (R.length - k)) i k := by
  intro n
  induction n using Nat.strongRecOn with
  | _ n ih =>
    intro i k h
    cases n with
    | zero => rw [Nat.le_zero.1 h]
    | succ n =>
      cases hm : (L.length - i) + (R.length - k) with
      | zero =>
        rw [restF, restF]
        have : movesM L.length R.length i k = [] := by
          rw [List.eq_nil_iff_forall_not_mem]
          intro s hs
          have := mem_moves hs
          omega
        rw [this]
        rfl
      | succ m =>
        rw [restF, restF]
        congr 1
        apply List.map_congr_left
        intro s hs
        have hb := mem_moves hs
        congr 1
        rw [ih n (by omega) _ _ (by omega), ih m (by omega) _ _ (by omega)]

theorem restM_step (L R : List Sen) (i k : Nat) (hi : i ≤ L.length) (hk : k ≤ R.length) :
    restM L R i k = minL ((movesM L.length R.length i k).map fun s => (priceAt L R i k s : Int) + restM L R (i + s.1) (k + s.2)) := by
  unfold restM
  cases hm : (L.length - i) + (R.length - k) with
  | zero =>
    have : movesM L.length R.length i k = [] := by
      rw [List.eq_nil_iff_forall_not_mem]
      intro s hs
      have := mem_moves hs
      omega
    rw [this]
    rfl
  | succ m =>
    rw [restF]
    congr 1
    apply List.map_congr_left
    intro s hs
    have hb := mem_moves hs
    congr 1
    exact restF_fuel L R m _ _ (by omega)

theorem foldl_min_mem (x : Int) (L : List Int) : L.foldl min x = x ∨ L.foldl min x ∈ L := by
  induction L generalizing x with
  | nil => exact .inl rfl
  | cons y L ih =>
    rw [List.foldl_cons]
    rcases ih (min x y) with h | h
    · rw [h]
      rcases Int.le_total x y with e | e
      · rw [Int.min_eq_left e]; exact .inl rfl
      · rw [Int.min_eq_right e]; exact .inr (by simp)
    · exact .inr (by simp [h])

theorem minL_bd {L : List Int} {B : Int} (hB : 0 ≤ B) (h : ∀ x ∈ L, 0 ≤ x ∧ x ≤ B) : 0 ≤ minL L ∧ minL L ≤ B := by
  cases L with
  | nil => exact ⟨Int.le_refl _, hB⟩
  | cons x L =>
    have : minL (x :: L) ∈ x :: L := by
      rcases foldl_min_mem x L with e | e
      · show L.foldl min x ∈ _
        rw [e]; simp
      · exact List.mem_cons_of_mem _ e
    exact h _ this

theorem priceM_le (x y : Nat) (T U : List Sen) : priceM x y T U ≤ 2060 := by
  unfold priceM
  have := apartM_le T U
  have := sidesM_le 0 x y
  have := sidesM_le 2 x y
  omega

theorem restF_bd (L R : List Sen) (n : Nat) : ∀ i k, 0 ≤ restF L R n i k ∧ restF L R n i k ≤ 2060 * n := by
  induction n with
  | zero => intro i k; simp [restF]
  | succ n ih =>
    intro i k
    rw [restF]
    refine minL_bd (by omega) fun x hx => ?_
    obtain ⟨s, -, rfl⟩ := List.mem_map.1 hx
    have h1 := ih (i + s.1) (k + s.2)
    have h2 : priceAt L R i k s ≤ 2060 := priceM_le _ _ _ _
    omega

theorem restM_bd (L R : List Sen) (hL : L.length ≤ 1000) (hR : R.length ≤ 1000) (i k : Nat) : 0 ≤ restM L R i k ∧ restM L R i k ≤ 5000000 := by
  have := restF_bd L R ((L.length - i) + (R.length - k)) i k
  unfold restM
  omega

/-- A place, as a value. -/
def placeV (a b : Nat) : Value := .agg #[.int .i64 (a : Int), .int .i64 (b : Int)]

def keyM (a b : Nat) : Lit := .string (keyBytes [.int .i64 (a : Int), .int .i64 (b : Int)])

theorem Try.laidOut : laidOutB Try.prog = true := by kernel_rfl
theorem Try.row150 : (150 : TypeId) < Try.prog.types.size := of_decide_eq_true (by kernel_rfl)
theorem Try.wide150 : (match Try.prog.underlying 150 with | some (.array _ _) | some (.struct _) => true | _ => false) = true := by kernel_rfl
set_option maxRecDepth 100000 in
theorem Try.law150 : Keyed Try.prog 150 := Keyed.of_law (deep_law_laid Try.laidOut (m := 3) (by omega) Try.row150 (by kernel_rfl) Try.wide150)
theorem Try.zero3 (w : World) : (zeroValue 3).run Try.prog w = .ok (.int .i64 0) w := by kernel_rfl

theorem key_at (a b : Nat) (ha : a ≤ 1000) (hb : b ≤ 1000) : keyOf Try.prog 150 (placeV a b) = some (keyM a b) := by
  have wa : (Lit.int .i64 (a : Int)).wf = true := WalkArith.wf_i64 (by omega)
  have wb : (Lit.int .i64 (b : Int)).wf = true := WalkArith.wf_i64 (by omega)
  have hs : Try.prog.types.size + 1 = (Try.prog.types.size - 1) + 1 + 1 := by have h : (150 : Nat) < Try.prog.types.size := Try.row150; omega
  have e3 : ∀ (d : Nat) (x : Int), (Lit.int .i64 x).wf = true → Try.prog.keyLits (d + 1) 3 [.int .i64 x] = some [.int .i64 x] := fun d x hx => by
    unfold Program.keyLits
    rw [Try.underlying3]
    simp [hx]
  have hl : Try.prog.keyLits (Try.prog.types.size + 1) 150 [.int .i64 (a : Int), .int .i64 (b : Int)] = some [.int .i64 (a : Int), .int .i64 (b : Int)] := by
    rw [hs]
    unfold Program.keyLits
    rw [Try.underlying150]
    have c1 : Try.prog.cellsOf 150 = 2 := by kernel_rfl
    have c2 : Try.prog.cellsOf 3 = 1 := by kernel_rfl
    simp [c1, c2, e3 _ _ wa, e3 _ _ wb]
  unfold keyOf placeV
  rw [Try.underlying150]
  have h1 : Try.prog.keyType 150 = true := by kernel_rfl
  have h2 : Value.formed Try.prog 150 (.agg #[.int .i64 (a : Int), .int .i64 (b : Int)]) = true := by
    have c1 : Try.prog.cellsOf 150 = 2 := by kernel_rfl
    simp [Value.formed, Try.underlying150, c1]
  have h3 : (Value.agg #[.int .i64 (a : Int), .int .i64 (b : Int)]).cells.toList = [.int .i64 (a : Int), .int .i64 (b : Int)] := rfl
  simp only [h1, h2, h3, hl, Bool.and_self, if_true, Option.map_some]
  rfl

theorem keyM_inj {a b a' b' : Nat} (ha : a ≤ 1000) (hb : b ≤ 1000) (ha' : a' ≤ 1000) (hb' : b' ≤ 1000) (h : keyM a b = keyM a' b') : a = a' ∧ b = b' := by
  have h1 := key_at a b ha hb
  rw [h] at h1
  have := Try.law150.inj h1 (key_at a' b' ha' hb')
  unfold placeV at this
  simp only [Value.agg.injEq, Array.mk.injEq, List.cons.injEq, Value.int.injEq, and_true, true_and] at this
  omega

/-- A table in memory, that has what f says at these places. -/
def TableAt (w : World) (mb n : Nat) (f : Nat → Nat → Int) (T : List (Nat × Nat)) : Prop :=
  ∃ D : DataW Unit, w.ownsMap Try.prog 150 (plainElem Try.prog 3) mb n D ∧ ∀ p ∈ T, p.1 ≤ 1000 ∧ p.2 ≤ 1000 ∧ D.atKey (keyM p.1 p.2) (.lit (.int .i64 0)) = .lit (.int .i64 (f p.1 p.2))

theorem TableAt.made (w : World) (f : Nat → Nat → Int) : TableAt (w.alloc (.map #[] 0)) w.heap.size 0 f [] := ⟨_, World.ownsMap_made _ _ _ _, fun p hp => by cases hp⟩

theorem TableAt.kept {w w' : World} {row : Option Nat} {mb n : Nat} {f : Nat → Nat → Int} {T : List (Nat × Nat)} (h : TableAt w mb n f T) (hg : w.grownBy w' row) (hne : some mb ≠ row) : TableAt w' mb n f T :=
  let ⟨D, h1, h2⟩ := h
  ⟨D, h1.kept hg hne, h2⟩

theorem TableAt.lt {w : World} {mb n : Nat} {f : Nat → Nat → Int} {T : List (Nat × Nat)} (h : TableAt w mb n f T) : mb < w.heap.size := let ⟨_, h1, _⟩ := h; h1.lt

theorem TableAt.look {w : World} {mb n : Nat} {f : Nat → Nat → Int} {T : List (Nat × Nat)} (h : TableAt w mb n f T) {a b : Nat} (hp : (a, b) ∈ T) :
    (Instr.lookup 146 (.map (some mb)) (.agg #[.int .i64 (a : Int), .int .i64 (b : Int)]) false).run Try.prog w = .ok (.int .i64 (f a b)) w := by
  obtain ⟨D, h1, h2⟩ := h
  obtain ⟨ha, hb, hd⟩ := h2 _ hp
  obtain ⟨c, hrun, hat, _⟩ := h1.lookup_int (t := 146) Try.law150 Try.underlying146 Try.underlying3 (Try.zero3 w) (key_at a b ha hb)
  rw [hd] at hat
  simp only [DataW.lit.injEq, Lit.int.injEq, true_and] at hat
  rw [← hat] at hrun
  exact hrun

theorem TableAt.put {w : World} {mb n : Nat} {f : Nat → Nat → Int} {T : List (Nat × Nat)} (h : TableAt w mb n f T) (hn : n < maxLen) {a b : Nat} (ha : a ≤ 1000) (hb : b ≤ 1000) (hf : 0 ≤ f a b ∧ f a b ≤ 5000000) :
    ∃ w', (Instr.mapUpdate 146 (.map (some mb)) (.agg #[.int .i64 (a : Int), .int .i64 (b : Int)]) (.int .i64 (f a b))).run Try.prog w = .ok () w' ∧ TableAt w' mb (n + 1) f (T ++ [(a, b)]) ∧ w.grownBy w' (some mb) := by
  obtain ⟨D, h1, h2⟩ := h
  have hk := key_at a b ha hb
  obtain ⟨w', hrun, hown, hg⟩ := h1.update (t := 146) Try.law150 Try.underlying146 hn hk (plainElem_int Try.underlying3 (WalkArith.wf_i64 (n := f a b) (by omega)))
  refine ⟨w', hrun, ⟨_, hown, fun p hp => ?_⟩, hg⟩
  rcases List.mem_append.1 hp with hp | hp
  · obtain ⟨q1, q2, q3⟩ := h2 p hp
    refine ⟨q1, q2, ?_⟩
    by_cases e : keyM p.1 p.2 = keyM a b
    · obtain ⟨e1, e2⟩ := keyM_inj q1 q2 ha hb e
      rw [e1, e2]
      exact atKey_put_same h1.isMap (Try.law150.key hk) _ _
    · rw [atKey_put_other e]; exact q3
  · simp only [List.mem_singleton] at hp
    subst hp
    exact ⟨ha, hb, atKey_put_same h1.isMap (Try.law150.key hk) _ _⟩

theorem TableAt.setCell {w : World} {mb n : Nat} {f : Nat → Nat → Int} {T : List (Nat × Nat)} (h : TableAt w mb n f T) {a : Addr} (ha : mb ≠ a.block) (u : Value) : TableAt (w.setCell a u) mb n f T :=
  let ⟨D, h1, h2⟩ := h
  ⟨D, h1.setCell ha u, h2⟩

theorem TableAt.noCells {w : World} {mb n : Nat} {f : Nat → Nat → Int} {T : List (Nat × Nat)} (h : TableAt w mb n f T) : ∃ o : Obj, w.heap[mb]? = some o ∧ o.isCells = false :=
  let ⟨_, ⟨_, _, hb, _⟩, _⟩ := h
  ⟨_, hb, rfl⟩

end Go.Proofs.Ytohahlnhbppnhaa

namespace Go.Proofs.Ytohahlnhbppnhaa
open Go.RowKit
set_option linter.unusedSimpArgs false
set_option linter.unusedVariables false

theorem mem_rowM {a b : Nat} {x : Nat × Nat} : x ∈ rowM a b ↔ x.1 = a ∧ x.2 < b := by
  unfold rowM
  simp only [List.mem_map, List.mem_reverse, List.mem_range]
  constructor
  · rintro ⟨k, hk, rfl⟩; exact ⟨rfl, hk⟩
  · rintro ⟨h1, h2⟩; exact ⟨x.2, h2, by rw [← h1]⟩

theorem mem_rowsM {nr a : Nat} {x : Nat × Nat} : x ∈ rowsM nr a ↔ x.1 < a ∧ x.2 ≤ nr := by
  unfold rowsM
  simp only [List.mem_flatMap, List.mem_reverse, List.mem_range, mem_rowM]
  constructor
  · rintro ⟨i, hi, h1, h2⟩; omega
  · rintro ⟨h1, h2⟩; exact ⟨x.1, h1, rfl, by omega⟩

/-- Which of two places comes first. -/
def Ahead (x y : Nat × Nat) : Prop := y.1 < x.1 ∨ y.1 = x.1 ∧ y.2 < x.2

theorem rowM_sorted (a b : Nat) : (rowM a b).Pairwise Ahead := by
  induction b with
  | zero => exact List.Pairwise.nil
  | succ b ih =>
    rw [rowM_succ]
    refine List.Pairwise.cons (fun y hy => ?_) ih
    have := mem_rowM.1 hy
    exact .inr this

theorem rowsM_sorted (nr a : Nat) : (rowsM nr a).Pairwise Ahead := by
  induction a with
  | zero => exact List.Pairwise.nil
  | succ a ih =>
    rw [rowsM_succ, List.pairwise_append]
    refine ⟨rowM_sorted _ _, ih, fun x hx y hy => ?_⟩
    have h1 := mem_rowM.1 hx
    have h2 := mem_rowsM.1 hy
    exact .inl (by omega)

theorem place_before {nl nr i k : Nat} {pre rest : List (Nat × Nat)} (h : placesM nl nr = pre ++ (i, k) :: rest) : i ≤ nl ∧ k ≤ nr ∧ ∀ a b, a ≤ nl → b ≤ nr → (i < a ∨ i = a ∧ k < b) → (a, b) ∈ pre := by
  have hs := rowsM_sorted nr (nl + 1)
  have hm : (i, k) ∈ placesM nl nr := by rw [h]; simp
  have hik := mem_rowsM.1 hm
  simp only at hik
  refine ⟨by omega, by omega, fun a b ha hb hab => ?_⟩
  have hmem : (a, b) ∈ placesM nl nr := mem_rowsM.2 ⟨by simp only; omega, hb⟩
  rw [h] at hmem
  unfold placesM at h
  rw [h, List.pairwise_append] at hs
  rcases List.mem_append.1 hmem with e | e
  · exact e
  · rcases List.mem_cons.1 e with e | e
    · cases e; omega
    · have := (List.pairwise_cons.1 hs.2.1).1 _ e
      unfold Ahead at this
      simp only at this
      omega

theorem mem_places {nl nr a b : Nat} (ha : a ≤ nl) (hb : b ≤ nr) : (a, b) ∈ placesM nl nr := mem_rowsM.2 ⟨by simp only; omega, hb⟩

theorem places_length (nl nr : Nat) : (placesM nl nr).length = (nl + 1) * (nr + 1) := by
  have : ∀ a, (rowsM nr a).length = a * (nr + 1) := by
    intro a
    induction a with
    | zero => simp [rowsM]
    | succ a ih =>
      rw [rowsM_succ, List.length_append, ih, Nat.succ_mul]
      simp [rowM]
      omega
  exact this _

set_option maxHeartbeats 400000 in
theorem places_make (v0 v1 v2 v3 v4 v5 v6 : Value) (w : World) :
    Calls Try.prog 94 #[.agg #[v0, v1, v2, v3, v4, v5, v6]] w fun e w' => e = .returned (.func (.func 123) #[] #[.pointer (some ⟨w.heap.size, 0, none⟩)]) ∧ w.alloc (.cells #[v0, v1, v2, v3, v4, v5, v6] 119) = w' := by
  go_enter Try.func94, Try.ntmps94
  go_wp2_with fail
  go_ret
  exact ⟨rfl, rfl⟩

set_option maxHeartbeats 400000 in
theorem next_make (v0 v1 v2 v3 v4 v5 v6 u0 u1 : Value) (w : World) :
    Calls Try.prog 80 #[.agg #[v0, v1, v2, v3, v4, v5, v6], .agg #[u0, u1]] w fun e w' => e = .returned (.func (.func 112) #[] #[.pointer (some ⟨w.heap.size, 0, none⟩), .pointer (some ⟨w.heap.size + 1, 0, none⟩)]) ∧
      (w.alloc (.cells #[v0, v1, v2, v3, v4, v5, v6] 119)).alloc (.cells #[u0, u1] 150) = w' := by
  go_enter Try.func80, Try.ntmps80
  go_wp2_with fail
  go_ret
  exact ⟨rfl, rfl⟩

end Go.Proofs.Ytohahlnhbppnhaa
