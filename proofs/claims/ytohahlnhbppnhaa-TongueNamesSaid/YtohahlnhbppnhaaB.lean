/- Tongue: sentences, as they lie in memory; the words of their marks, and how many marks two of them have not in common. -/
import Derived.Test.YtohahlnhbppnhaaA
import Derived.Deep.QuietTactic
import Derived.BigQuiet
import Derived.RangeFuncBox
import Derived.WalkSmall
import Derived.Deep.OwnRows
import Derived.Deep.RegionHeld3
namespace Go.Proofs.Ytohahlnhbppnhaa
open Go.RowKit
set_option linter.unusedSimpArgs false
set_option linter.unusedVariables false

/-- A sentence: its marks, and its size. -/
structure Sen where
  marks : List Int
  size : Int
deriving Inhabited

/-- Whole numbers, as they lie in memory. -/
def IntsAt (w : World) (a : Option Addr) (L : List Int) : Prop :=
  ∀ i, i < L.length → ∃ b off, a = some ⟨b, off, none⟩ ∧ w.cell? ⟨b, off + i, none⟩ = some (.int .i64 (L.getD i 0))

theorem IntsAt.grown {w w' : World} {a : Option Addr} {L : List Int} (h : IntsAt w a L) (hb : Below w.heap.size w w') : IntsAt w' a L := fun i hi =>
  let ⟨b, off, ha, h1⟩ := h i hi
  ⟨b, off, ha, cell_grown hb h1⟩

/-- A text: its sentences, as they lie in memory. -/
def TextAt (w : World) (a : Option Addr) (T : List Sen) : Prop :=
  ∀ i, i < T.length → ∃ b off ma mc, a = some ⟨b, off, none⟩ ∧ w.cell? ⟨b, off + i * 2, none⟩ = some (.slice ma (T.getD i default).marks.length mc) ∧ w.cell? ⟨b, off + i * 2 + 1, none⟩ = some (.int .i64 (T.getD i default).size) ∧
    IntsAt w ma (T.getD i default).marks

theorem TextAt.grown {w w' : World} {a : Option Addr} {T : List Sen} (h : TextAt w a T) (hb : Below w.heap.size w w') : TextAt w' a T := fun i hi =>
  let ⟨b, off, ma, mc, ha, h1, h2, h3⟩ := h i hi
  ⟨b, off, ma, mc, ha, cell_grown hb h1, cell_grown hb h2, h3.grown hb⟩

/-- The words of a set of marks, as a value. -/
def wordsA (ws : List Nat) : Array Value := (ws.map fun (x : Nat) => Value.int .u64 (x : Int)).toArray

/-- Words that are words. -/
def WordsOk (ws : List Nat) : Prop := ws.length = 16 ∧ ∀ i, ws.getD i 0 < 2 ^ 64

/-- In how many bits the first so many words are not the same. -/
def apartK (xs ys : List Nat) (k : Nat) : Nat := ((List.range k).map fun i => popM (xs.getD i 0 ^^^ ys.getD i 0)).sum

theorem apartK_succ (xs ys : List Nat) (k : Nat) : apartK xs ys (k + 1) = apartK xs ys k + popM (xs.getD k 0 ^^^ ys.getD k 0) := by
  unfold apartK
  rw [List.range_succ, List.map_append, List.sum_append]
  simp

theorem apartK_le (xs ys : List Nat) (k : Nat) : apartK xs ys k ≤ 64 * k := by
  induction k with
  | zero => simp [apartK]
  | succ k ih => rw [apartK_succ]; have := popM_le (xs.getD k 0 ^^^ ys.getD k 0); omega

theorem words_cell {w : World} {b : Nat} {t : TypeId} {ws : List Nat} (h : w.heap[b]? = some (.cells (wordsA ws) t)) (hb : b < w.heap.size) {i : Nat} (hi : i < ws.length) : w.cell? ⟨b, i, none⟩ = some (.int .u64 (ws.getD i 0 : Nat)) := by
  have e : (wordsA ws)[i]? = some (.int .u64 (ws.getD i 0 : Nat)) := by
    unfold wordsA
    simp [List.getElem?_eq_getElem hi]
  unfold World.cell?
  simp only [h]
  exact e

set_option maxRecDepth 100000 in
set_option maxHeartbeats 1000000 in
theorem wapart_any (xs ys : List Nat) (w : World) (hx : WordsOk xs) (hy : WordsOk ys) :
    Calls Try.prog 116 #[.agg (wordsA xs), .agg (wordsA ys)] w fun e w' => e = .returned (.int .i64 (apartK xs ys 16 : Nat)) ∧ Below w.heap.size w w' := by
  go_enter Try.func116, Try.ntmps116
  go_wp2_with fail
  obtain ⟨W0, hW0⟩ : ∃ W, W = (w.alloc (.cells (wordsA xs) 187)).alloc (.cells (wordsA ys) 187) := ⟨_, rfl⟩
  have hB0 : Below w.heap.size w W0 := by rw [hW0]; exact ((Below.refl _ w).alloc (Nat.le_refl _) _).alloc (by simp) _
  have p1 : W0.heap[w.heap.size]? = some (.cells (wordsA xs) 187) := by rw [hW0]; exact (Below.heap_alloc _ _ _ (by simp)).trans (World.alloc_heap_new w _)
  have p2 : W0.heap[w.heap.size + 1]? = some (.cells (wordsA ys) 187) := by rw [hW0]; have := World.alloc_heap_new (w.alloc (.cells (wordsA xs) 187)) (.cells (wordsA ys) 187); rwa [World.size_alloc] at this
  have b1 : w.heap.size < W0.heap.size := by rw [hW0]; simp; omega
  have b2 : w.heap.size + 1 < W0.heap.size := by rw [hW0]; simp
  rw [← hW0]
  clear hW0
  go_loopw [5, 7] (fun s i wr => ∃ k : Nat, k ≤ 16 ∧ i = .int .i64 k ∧ s = .int .i64 (apartK xs ys k : Nat) ∧ Below W0.heap.size W0 wr) (fun _ i _ => 16 - (intOf i).toNat)
  case atStart => exact ⟨0, Nat.zero_le _, rfl, rfl, Below.refl _ _⟩
  case round =>
    obtain ⟨k, hk, rfl, rfl, hB⟩ := hrel
    by_cases hlt : k < 16
    · have hkk : (k : Int) < 16 := by omega
      have e1 := cell_grown hB (words_cell p1 b1 (i := k) (by rw [hx.1]; exact hlt))
      have e2 := cell_grown hB (words_cell p2 b2 (i := k) (by rw [hy.1]; exact hlt))
      have g1 := lt_of_cell e1
      have g2 := lt_of_cell e2
      have l1 := hx.2 k
      have l2 := hy.2 k
      have hs := apartK_succ xs ys k
      have hle := apartK_le xs ys k
      have hpl := popM_le (xs.getD k 0 ^^^ ys.getD k 0)
      generalize xs.getD k 0 = x at e1 l1 hs hpl
      generalize ys.getD k 0 = y at e2 l2 hs hpl
      have hxr := bits_xor64 x y l1 l2
      have hxl : x ^^^ y < 2 ^ 64 := Nat.xor_lt_two_pow l1 l2
      have HS := hid hs
      clear hs
      generalize x ^^^ y = z at hxr hxl hpl HS
      generalize apartK xs ys k = s at hle HS
      go_wp2_with fail
      go_quiet (first | (go_at_call 133; exact Calls.quiet_of_same (ones_any z hxl _)))
      go_wp2_with fail
      go_roundw
      case rel => exact ⟨k + 1, by omega, by go_num, by rw [HS.out]; simp, below_drewN hB _⟩
      case measure => simp [intOf]; omega
    · have hk16 : k = 16 := by omega
      subst hk16
      go_wp2_with fail
      go_ret
      exact ⟨rfl, hB0.trans (hB.mono hB0.size)⟩

/-- A world that grew from W. -/
structure Over (W : World) where
  w : World
  h : Below W.heap.size W w

instance overInhabited {W : World} : Inhabited (Over W) := ⟨⟨W, Below.refl _ _⟩⟩

theorem Over.cell {W : World} (p : Over W) {b off : Nat} {v : Value} (h : W.cell? ⟨b, off, none⟩ = some v) : p.w.cell? ⟨b, off, none⟩ = some v := cell_grown p.h h

theorem wp_region_over {P : Program} {id : Nat} {Q : Exit → Act → World → Prop} {a : Act} {w : World} {l : List Oper} (W : World) (hw : Below W.heap.size W w)
    (hm : P.follows .mixedOrders = true) (hB : Region.lexB .any l.toArray = true)
    (h : wpQuiet P l.toArray (fun w' => ∃ p : Over W, w' = p.w) (fun a' => ∀ w', (∃ p : Over W, w' = p.w) → Q .normal a' w') l a) :
    (Code.region id l.toArray true).wp P Q a w :=
  wp_region_quiet (C := fun w' => ∃ p : Over W, w' = p.w) hm hB ⟨⟨_, hw.drew⟩, rfl⟩ (by simpa using h)

theorem Calls.over_of {P : Program} {f : FuncId} {args : Array Value} {W : World} {p : Over W} {v : Value}
    (h : Calls P f args p.w fun e w' => e = .returned v ∧ Below p.w.heap.size p.w w') :
    Calls P f args p.w fun e w'' => e = .returned v ∧ ∃ q : Over W, w'' = q.w :=
  h.mono fun _ _ ⟨he, hb⟩ => ⟨he, ⟨⟨_, p.h.trans (hb.mono p.h.size)⟩, rfl⟩⟩

theorem over_below {W w' : World} (h : ∃ p : Over W, w' = p.w) : Below W.heap.size W w' := by
  obtain ⟨p, rfl⟩ := h
  exact p.h

theorem u64_nat (p : Nat) (h : p < 2 ^ 64) : IntKind.u64.wrap (p : Int) = (p : Int) := by
  rw [IntKind.wrap_u64]
  omega

/-- The words with one mark more. -/
def putW (ws : List Nat) (m : Int) : List Nat := ws.set (m / 64).toNat (ws.getD (m / 64).toNat 0 ||| 2 ^ (m % 64).toNat)

/-- The words of some marks. -/
def foldW (ws : List Nat) (L : List Int) : List Nat := L.foldl putW ws

def zeroW : List Nat := List.replicate 16 0

/-- The marks of all sentences of a text. -/
def marksOf (T : List Sen) : List Int := (T.map Sen.marks).flatten

/-- The words of a text's marks. -/
def wordsOf (T : List Sen) : List Nat := foldW zeroW (marksOf T)

theorem zeroW_ok : WordsOk zeroW := by
  refine ⟨rfl, fun i => ?_⟩
  unfold zeroW
  rw [List.getD_eq_getElem?_getD, List.getElem?_replicate]
  split <;> simp

theorem putW_ok {ws : List Nat} (h : WordsOk ws) (m : Int) : WordsOk (putW ws m) := by
  refine ⟨by rw [putW, List.length_set]; exact h.1, fun i => ?_⟩
  unfold putW
  rw [List.getD_eq_getElem?_getD, List.getElem?_set]
  have h2 : 2 ^ (m % 64).toNat < 2 ^ 64 := Nat.pow_lt_pow_right (by decide) (by omega)
  split
  · split
    · exact Nat.or_lt_two_pow (h.2 _) h2
    · simp
  · rw [← List.getD_eq_getElem?_getD]; exact h.2 i

theorem foldW_ok {ws : List Nat} (h : WordsOk ws) (L : List Int) : WordsOk (foldW ws L) := by
  induction L generalizing ws with
  | nil => exact h
  | cons m L ih => exact ih (putW_ok h m)

theorem wordsOf_ok (T : List Sen) : WordsOk (wordsOf T) := foldW_ok zeroW_ok _

theorem list16 {l : List Nat} (h : l.length = 16) : ∃ x0 x1 x2 x3 x4 x5 x6 x7 x8 x9 x10 x11 x12 x13 x14 x15, l = [x0, x1, x2, x3, x4, x5, x6, x7, x8, x9, x10, x11, x12, x13, x14, x15] := by
  iterate 16 (rcases l with _ | ⟨_, l⟩; · simp at h)
  cases l with
  | nil => exact ⟨_, _, _, _, _, _, _, _, _, _, _, _, _, _, _, _, rfl⟩
  | cons _ _ => simp at h

/-- What a block of words holds. -/
def wordF (ws : List Nat) (i : Nat) : Value := .int .u64 (ws.getD i 0 : Nat)

def set16 (X : World) (b : Nat) (x0 x1 x2 x3 x4 x5 x6 x7 x8 x9 x10 x11 x12 x13 x14 x15 : Nat) : World := (((((((((((((((X.setCell ⟨b, 0, none⟩ (.int .u64 (x0 : Int))).setCell ⟨b, 1, none⟩ (.int .u64 (x1 : Int))).setCell ⟨b, 2, none⟩ (.int .u64 (x2 : Int))).setCell ⟨b, 3, none⟩ (.int .u64 (x3 : Int))).setCell ⟨b, 4, none⟩ (.int .u64 (x4 : Int))).setCell ⟨b, 5, none⟩ (.int .u64 (x5 : Int))).setCell ⟨b, 6, none⟩ (.int .u64 (x6 : Int))).setCell ⟨b, 7, none⟩ (.int .u64 (x7 : Int))).setCell ⟨b, 8, none⟩ (.int .u64 (x8 : Int))).setCell ⟨b, 9, none⟩ (.int .u64 (x9 : Int))).setCell ⟨b, 10, none⟩ (.int .u64 (x10 : Int))).setCell ⟨b, 11, none⟩ (.int .u64 (x11 : Int))).setCell ⟨b, 12, none⟩ (.int .u64 (x12 : Int))).setCell ⟨b, 13, none⟩ (.int .u64 (x13 : Int))).setCell ⟨b, 14, none⟩ (.int .u64 (x14 : Int))).setCell ⟨b, 15, none⟩ (.int .u64 (x15 : Int))

theorem set16_row {X : World} {b : Nat} {t : TypeId} {f : Nat → Value} (x0 x1 x2 x3 x4 x5 x6 x7 x8 x9 x10 x11 x12 x13 x14 x15 : Nat) (h : X.rowIs b t 16 f) : (set16 X b x0 x1 x2 x3 x4 x5 x6 x7 x8 x9 x10 x11 x12 x13 x14 x15).rowIs b t 16 (wordF [x0, x1, x2, x3, x4, x5, x6, x7, x8, x9, x10, x11, x12, x13, x14, x15]) := by
  unfold set16
  refine ((((((((((((((((h.set 0 _).set 1 _).set 2 _).set 3 _).set 4 _).set 5 _).set 6 _).set 7 _).set 8 _).set 9 _).set 10 _).set 11 _).set 12 _).set 13 _).set 14 _).set 15 _).congr (fun i hi => ?_)
  iterate 16 (rcases i with _ | i; · rfl)
  omega

theorem set16_below {B : Nat} {X Y : World} {b : Nat} (x0 x1 x2 x3 x4 x5 x6 x7 x8 x9 x10 x11 x12 x13 x14 x15 : Nat) (h : Below B X Y) (hb : B ≤ b) : Below B X (set16 Y b x0 x1 x2 x3 x4 x5 x6 x7 x8 x9 x10 x11 x12 x13 x14 x15) := by
  unfold set16
  exact ((((((((((((((((h.setCell (p := ⟨b, 0, none⟩) hb _).setCell (p := ⟨b, 1, none⟩) hb _).setCell (p := ⟨b, 2, none⟩) hb _).setCell (p := ⟨b, 3, none⟩) hb _).setCell (p := ⟨b, 4, none⟩) hb _).setCell (p := ⟨b, 5, none⟩) hb _).setCell (p := ⟨b, 6, none⟩) hb _).setCell (p := ⟨b, 7, none⟩) hb _).setCell (p := ⟨b, 8, none⟩) hb _).setCell (p := ⟨b, 9, none⟩) hb _).setCell (p := ⟨b, 10, none⟩) hb _).setCell (p := ⟨b, 11, none⟩) hb _).setCell (p := ⟨b, 12, none⟩) hb _).setCell (p := ⟨b, 13, none⟩) hb _).setCell (p := ⟨b, 14, none⟩) hb _).setCell (p := ⟨b, 15, none⟩) hb _)

/-- All marks of a text are marks. -/
def MarksOk (T : List Sen) : Prop := ∀ s ∈ T, ∀ m ∈ s.marks, 0 ≤ m ∧ m ≤ 999

theorem zero_row (w : World) : (w.alloc (.cells #[.int .u64 0, .int .u64 0, .int .u64 0, .int .u64 0, .int .u64 0, .int .u64 0, .int .u64 0, .int .u64 0, .int .u64 0, .int .u64 0, .int .u64 0, .int .u64 0, .int .u64 0, .int .u64 0, .int .u64 0, .int .u64 0] 187)).rowIs w.heap.size 187 16 (wordF zeroW) :=
  World.rowIs_alloc w _ 187 (wordF zeroW) (fun i hi => by
    have h : i < 16 := hi
    iterate 16 (rcases i with _ | i; · rfl)
    omega)

theorem wordF_put (ws : List Nat) (hl : ws.length = 16) (q : Nat) (hq : q < 16) (x : Nat) : ∀ i, i < 16 → (if i = q then Value.int .u64 (x : Nat) else wordF ws i) = wordF (ws.set q x) i := by
  intro i hi
  unfold wordF
  rw [List.getD_eq_getElem?_getD, List.getD_eq_getElem?_getD, List.getElem?_set]
  by_cases e : i = q
  · subst e; simp [hl, hq]
  · rw [if_neg e, if_neg (fun h => e h.symm)]

theorem marksOf_take (T : List Sen) (j : Nat) (hj : j < T.length) : marksOf (T.take (j + 1)) = marksOf (T.take j) ++ (T.getD j default).marks := by
  unfold marksOf
  rw [List.take_add_one, List.map_append, List.flatten_append, List.getD_eq_getElem?_getD, List.getElem?_eq_getElem hj]
  simp

theorem foldW_snoc (ws : List Nat) (L : List Int) (m : Int) : foldW ws (L ++ [m]) = putW (foldW ws L) m := by
  unfold foldW
  rw [List.foldl_append]
  rfl

theorem foldW_append (ws : List Nat) (L M : List Int) : foldW ws (L ++ M) = foldW (foldW ws L) M := by
  unfold foldW
  rw [List.foldl_append]

set_option maxRecDepth 100000 in
set_option maxHeartbeats 1000000 in
theorem marks_any (T : List Sen) (n cap : Nat) (a : Option Addr) (w : World) (hT : T.length = n) (hn : n ≤ 1000) (hl : ∀ s ∈ T, s.marks.length ≤ 1000) (hok : MarksOk T) (hS : TextAt w a T) :
    Calls Try.prog 115 #[.slice a n cap] w fun e w' => e = .returned (.agg (wordsA (wordsOf T))) ∧ Below w.heap.size w w' := by
  have HT := hid hT
  clear hT
  have hz1 := zero_row w
  have hz2 := zero_row (w.alloc (.cells #[.int .u64 0, .int .u64 0, .int .u64 0, .int .u64 0, .int .u64 0, .int .u64 0, .int .u64 0, .int .u64 0, .int .u64 0, .int .u64 0, .int .u64 0, .int .u64 0, .int .u64 0, .int .u64 0, .int .u64 0, .int .u64 0] 187))
  rw [World.size_alloc] at hz2
  go_enter Try.func115, Try.ntmps115
  go_wp2_with fail
  obtain ⟨W0, hW0⟩ : ∃ W, W = (w.alloc (.cells #[.int .u64 0, .int .u64 0, .int .u64 0, .int .u64 0, .int .u64 0, .int .u64 0, .int .u64 0, .int .u64 0, .int .u64 0, .int .u64 0, .int .u64 0, .int .u64 0, .int .u64 0, .int .u64 0, .int .u64 0, .int .u64 0] 187)).alloc (.cells #[.int .u64 0, .int .u64 0, .int .u64 0, .int .u64 0, .int .u64 0, .int .u64 0, .int .u64 0, .int .u64 0, .int .u64 0, .int .u64 0, .int .u64 0, .int .u64 0, .int .u64 0, .int .u64 0, .int .u64 0, .int .u64 0] 187) := ⟨_, rfl⟩
  have hB0 : Below w.heap.size w W0 := by rw [hW0]; exact ((Below.refl _ w).alloc (Nat.le_refl _) _).alloc (by simp) _
  have r1 : W0.rowIs w.heap.size 187 16 (wordF zeroW) := by rw [hW0]; exact hz1.alloc _
  have r2 : W0.rowIs (w.heap.size + 1) 187 16 (wordF zeroW) := by rw [hW0]; exact hz2
  rw [← hW0]
  clear hW0 hz1 hz2
  go_loopw [5, 7, 10, 12, 13, 14, 15, 16, 17] (fun _ _ i _ _ _ _ _ _ wr => ∃ k : Nat, k ≤ n ∧ i = .int .i64 k ∧ Below w.heap.size w wr ∧ wr.rowIs w.heap.size 187 16 (wordF zeroW) ∧ Hid (wr.rowIs (w.heap.size + 1) 187 16 (wordF (foldW zeroW (marksOf (T.take k)))))) (fun _ _ i _ _ _ _ _ _ _ => n - (intOf i).toNat)
  case atStart => exact ⟨0, Nat.zero_le _, rfl, hB0, r1, hid (by simpa [marksOf, foldW] using r2)⟩
  case round =>
    obtain ⟨k, hk, rfl, hB, s1, HS2⟩ := hrel
    by_cases hlt : k < n
    · have hkk : (k : Int) < n := by omega
      obtain ⟨b, off, ma, mc, ea, e1, e2, e3⟩ := hS k (by rw [HT.out]; exact hlt)
      replace e1 := cell_grown hB e1
      replace e2 := cell_grown hB e2
      have hmem : T.getD k default ∈ T := by
        rw [List.getD_eq_getElem?_getD, List.getElem?_eq_getElem (by rw [HT.out]; exact hlt)]
        exact List.getElem_mem _
      have hml := hl _ hmem
      have hmo := hok _ hmem
      have hst := marksOf_take T k (by rw [HT.out]; exact hlt)
      have hbase := foldW_ok zeroW_ok (marksOf (T.take k))
      generalize T.getD k default = s at e1 e2 e3 hml hmo hst
      obtain ⟨L, size⟩ := s
      simp only at e1 e2 e3 hml hmo hst
      obtain ⟨m, hm⟩ : ∃ m, L.length = m := ⟨_, rfl⟩
      rw [hm] at e1 hml
      have HM := hid hm
      clear hm
      obtain ⟨base, hbs⟩ : ∃ b, b = foldW zeroW (marksOf (T.take k)) := ⟨_, rfl⟩
      rw [← hbs] at HS2 hbase
      have HST : Hid (foldW zeroW (marksOf (T.take (k + 1))) = foldW base L) := hid (by rw [hst, foldW_append, hbs])
      clear hst hbs
      subst ea
      have gb := lt_of_cell e1
      obtain ⟨wo, hwo⟩ : ∃ X, X = wr := ⟨_, rfl⟩
      subst hwo
      go_wp2_with fail
      obtain ⟨W1, hW1⟩ : ∃ W, W = wo.alloc (.cells #[.slice ma m mc, .int .i64 size] 91) := ⟨_, rfl⟩
      have hB1 : Below wo.heap.size wo W1 := by rw [hW1]; exact below_alloc _ _
      have t1 : W1.rowIs w.heap.size 187 16 (wordF zeroW) := by rw [hW1]; exact s1.alloc _
      have t2 : W1.rowIs (w.heap.size + 1) 187 16 (wordF base) := by rw [hW1]; exact HS2.out.alloc _
      have hB2 : Below w.heap.size w W1 := hB.trans (hB1.mono hB.size)
      have gw : w.heap.size + 1 < wo.heap.size := HS2.out.lt
      have gw1 : w.heap.size + 1 < W1.heap.size := t2.lt
      rw [← hW1]
      clear hW1
      go_loopw [7, 17] (fun _ i w2 => ∃ j : Nat, j ≤ m ∧ i = .int .i64 j ∧ Below w.heap.size w w2 ∧ w2.rowIs w.heap.size 187 16 (wordF zeroW) ∧ Hid (w2.rowIs (w.heap.size + 1) 187 16 (wordF (foldW base (L.take j))))) (fun _ i _ => m - (intOf i).toNat)
      case atStart => exact ⟨0, Nat.zero_le _, rfl, hB2, t1, hid t2⟩
      case round =>
        obtain ⟨j, hj, rfl, hBj, v1, HV2⟩ := hrel
        by_cases hlj : j < m
        · have hjj : (j : Int) < m := by omega
          obtain ⟨b2, off2, ea2, f1⟩ := (e3.grown hBj) j (by rw [HM.out]; exact hlj)
          have hmem2 : L.getD j 0 ∈ L := by
            rw [List.getD_eq_getElem?_getD, List.getElem?_eq_getElem (by rw [HM.out]; exact hlj)]
            exact List.getElem_mem _
          have hmo2 := hmo _ hmem2
          have HTK : Hid (foldW base (L.take (j + 1)) = putW (foldW base (L.take j)) (L.getD j 0)) := hid (by
            rw [List.take_add_one, List.getElem?_eq_getElem (by rw [HM.out]; exact hlj), List.getD_eq_getElem?_getD, List.getElem?_eq_getElem (by rw [HM.out]; exact hlj)]
            exact foldW_snoc _ _ _)
          have hbo := foldW_ok hbase (L.take j)
          generalize L.getD j 0 = x at f1 hmo2 HTK
          subst ea2
          have gb2 := lt_of_cell f1
          obtain ⟨q, hq⟩ : ∃ q : Nat, q = (x / 64).toNat := ⟨_, rfl⟩
          obtain ⟨r, hr⟩ : ∃ r : Nat, r = (x % 64).toNat := ⟨_, rfl⟩
          have hq16 : q < 16 := by omega
          have hq16' : (q : Int) < 16 := by omega
          have hr64 : r < 64 := by omega
          have hx0 : 0 ≤ x := hmo2.1
          have hqt : x.tdiv 64 = (q : Int) := by rw [Int.tdiv_eq_ediv_of_nonneg hx0]; omega
          have hrt : x.tmod 64 = (r : Int) := by rw [Int.tmod_eq_emod_of_nonneg hx0]; omega
          have c1 := HV2.out.cell hq16
          have c2 := HV2.out.frozen q
          have gv := HV2.out.lt
          have HP : Hid (foldW base (L.take (j + 1)) = (foldW base (L.take j)).set q ((foldW base (L.take j)).getD q 0 ||| 2 ^ r)) := hid (by rw [HTK.out, putW, hq, hr])
          have l1 := hbo.2 q
          have HL := hid hbo.1
          unfold wordF at c1
          generalize (foldW base (L.take j)).getD q 0 = y at c1 l1 HP
          have l2 : 2 ^ r < 2 ^ 64 := Nat.pow_lt_pow_right (by decide) hr64
          have hor : bits .or .u64 (y : Int) (IntKind.u64.wrap (2 ^ r)) = ((y ||| 2 ^ r : Nat) : Int) := by
            have e : IntKind.u64.wrap (2 ^ r) = ((2 ^ r : Nat) : Int) := by
              rw [show ((2 : Int) ^ r) = ((2 ^ r : Nat) : Int) by simp]
              exact u64_nat _ l2
            rw [e]
            exact bits_or64 y (2 ^ r) l1 l2
          generalize y ||| 2 ^ r = z at hor HP
          clear hq hr HTK hbo hmo2 l2
          go_wp2_with fail
          go_region
          go_wp2_with fail
          go_roundw
          case rel =>
            refine ⟨j + 1, by omega, by go_num, ?_, ?_, hid ?_⟩
            · exact (hBj.setCell (p := ⟨w.heap.size + 1, q, none⟩) (by simp) _).drew
            · exact (v1.setOther (by simp) _).drew
            · rw [HP.out]
              exact (HV2.out.set q _).congr (wordF_put _ HL.out q hq16 z)
          case measure => simp [intOf]; omega
        · have hjm : j = m := by omega
          subst hjm
          have HF : Hid (wr.rowIs (w.heap.size + 1) 187 16 (wordF (foldW zeroW (marksOf (T.take (k + 1)))))) := hid (by
            rw [HST.out]
            have := HV2.out
            rwa [← HM.out, List.take_length] at this)
          go_wp2_with fail
          go_roundw
          case rel => exact ⟨k + 1, by omega, by go_num, hBj, v1, HF⟩
          case measure => simp [intOf]; omega
    · have hkn : k = n := by omega
      subst hkn
      have HR : Hid (wr.rowIs (w.heap.size + 1) 187 16 (wordF (wordsOf T))) := hid (by
        have := HS2.out
        rwa [← HT.out, List.take_length] at this)
      have hw := wordsOf_ok T
      obtain ⟨ws, hws⟩ : ∃ ws, wordsOf T = ws := ⟨_, rfl⟩
      rw [hws] at HR hw
      have HWS := hid hws
      clear hws
      obtain ⟨hlen, _⟩ := hw
      obtain ⟨x0, x1, x2, x3, x4, x5, x6, x7, x8, x9, x10, x11, x12, x13, x14, x15, rfl⟩ := list16 hlen
      have c0 := lt_of_cell (HR.out.cell (i := 0) (by decide))
      have a0 : wr.cell? ⟨w.heap.size + 1, 0, none⟩ = some (.int .u64 (x0 : Int)) := HR.out.cell (i := 0) (by decide)
      have a1 : wr.cell? ⟨w.heap.size + 1, 1, none⟩ = some (.int .u64 (x1 : Int)) := HR.out.cell (i := 1) (by decide)
      have a2 : wr.cell? ⟨w.heap.size + 1, 2, none⟩ = some (.int .u64 (x2 : Int)) := HR.out.cell (i := 2) (by decide)
      have a3 : wr.cell? ⟨w.heap.size + 1, 3, none⟩ = some (.int .u64 (x3 : Int)) := HR.out.cell (i := 3) (by decide)
      have a4 : wr.cell? ⟨w.heap.size + 1, 4, none⟩ = some (.int .u64 (x4 : Int)) := HR.out.cell (i := 4) (by decide)
      have a5 : wr.cell? ⟨w.heap.size + 1, 5, none⟩ = some (.int .u64 (x5 : Int)) := HR.out.cell (i := 5) (by decide)
      have a6 : wr.cell? ⟨w.heap.size + 1, 6, none⟩ = some (.int .u64 (x6 : Int)) := HR.out.cell (i := 6) (by decide)
      have a7 : wr.cell? ⟨w.heap.size + 1, 7, none⟩ = some (.int .u64 (x7 : Int)) := HR.out.cell (i := 7) (by decide)
      have a8 : wr.cell? ⟨w.heap.size + 1, 8, none⟩ = some (.int .u64 (x8 : Int)) := HR.out.cell (i := 8) (by decide)
      have a9 : wr.cell? ⟨w.heap.size + 1, 9, none⟩ = some (.int .u64 (x9 : Int)) := HR.out.cell (i := 9) (by decide)
      have a10 : wr.cell? ⟨w.heap.size + 1, 10, none⟩ = some (.int .u64 (x10 : Int)) := HR.out.cell (i := 10) (by decide)
      have a11 : wr.cell? ⟨w.heap.size + 1, 11, none⟩ = some (.int .u64 (x11 : Int)) := HR.out.cell (i := 11) (by decide)
      have a12 : wr.cell? ⟨w.heap.size + 1, 12, none⟩ = some (.int .u64 (x12 : Int)) := HR.out.cell (i := 12) (by decide)
      have a13 : wr.cell? ⟨w.heap.size + 1, 13, none⟩ = some (.int .u64 (x13 : Int)) := HR.out.cell (i := 13) (by decide)
      have a14 : wr.cell? ⟨w.heap.size + 1, 14, none⟩ = some (.int .u64 (x14 : Int)) := HR.out.cell (i := 14) (by decide)
      have a15 : wr.cell? ⟨w.heap.size + 1, 15, none⟩ = some (.int .u64 (x15 : Int)) := HR.out.cell (i := 15) (by decide)
      have f0 := s1.frozen 0
      have g0 := s1.cell (i := 0) (by decide)
      have f1 := s1.frozen 1
      have g1 := s1.cell (i := 1) (by decide)
      have f2 := s1.frozen 2
      have g2 := s1.cell (i := 2) (by decide)
      have f3 := s1.frozen 3
      have g3 := s1.cell (i := 3) (by decide)
      have f4 := s1.frozen 4
      have g4 := s1.cell (i := 4) (by decide)
      have f5 := s1.frozen 5
      have g5 := s1.cell (i := 5) (by decide)
      have f6 := s1.frozen 6
      have g6 := s1.cell (i := 6) (by decide)
      have f7 := s1.frozen 7
      have g7 := s1.cell (i := 7) (by decide)
      have f8 := s1.frozen 8
      have g8 := s1.cell (i := 8) (by decide)
      have f9 := s1.frozen 9
      have g9 := s1.cell (i := 9) (by decide)
      have f10 := s1.frozen 10
      have g10 := s1.cell (i := 10) (by decide)
      have f11 := s1.frozen 11
      have g11 := s1.cell (i := 11) (by decide)
      have f12 := s1.frozen 12
      have g12 := s1.cell (i := 12) (by decide)
      have f13 := s1.frozen 13
      have g13 := s1.cell (i := 13) (by decide)
      have f14 := s1.frozen 14
      have g14 := s1.cell (i := 14) (by decide)
      have f15 := s1.frozen 15
      have g15 := s1.cell (i := 15) (by decide)
      have gl := s1.lt
      go_wp2_with fail
      show bodyPost Try.prog Try.f115 _ Exit.ret _ (set16 wr w.heap.size x0 x1 x2 x3 x4 x5 x6 x7 x8 x9 x10 x11 x12 x13 x14 x15)
      have row := set16_row x0 x1 x2 x3 x4 x5 x6 x7 x8 x9 x10 x11 x12 x13 x14 x15 s1
      have hbz := set16_below x0 x1 x2 x3 x4 x5 x6 x7 x8 x9 x10 x11 x12 x13 x14 x15 hB (Nat.le_refl _)
      generalize set16 wr w.heap.size x0 x1 x2 x3 x4 x5 x6 x7 x8 x9 x10 x11 x12 x13 x14 x15 = WF at row hbz
      have z0 : WF.cell? ⟨w.heap.size, 0, none⟩ = some (.int .u64 (x0 : Int)) := row.cell (i := 0) (by decide)
      have z1 : WF.cell? ⟨w.heap.size, 1, none⟩ = some (.int .u64 (x1 : Int)) := row.cell (i := 1) (by decide)
      have z2 : WF.cell? ⟨w.heap.size, 2, none⟩ = some (.int .u64 (x2 : Int)) := row.cell (i := 2) (by decide)
      have z3 : WF.cell? ⟨w.heap.size, 3, none⟩ = some (.int .u64 (x3 : Int)) := row.cell (i := 3) (by decide)
      have z4 : WF.cell? ⟨w.heap.size, 4, none⟩ = some (.int .u64 (x4 : Int)) := row.cell (i := 4) (by decide)
      have z5 : WF.cell? ⟨w.heap.size, 5, none⟩ = some (.int .u64 (x5 : Int)) := row.cell (i := 5) (by decide)
      have z6 : WF.cell? ⟨w.heap.size, 6, none⟩ = some (.int .u64 (x6 : Int)) := row.cell (i := 6) (by decide)
      have z7 : WF.cell? ⟨w.heap.size, 7, none⟩ = some (.int .u64 (x7 : Int)) := row.cell (i := 7) (by decide)
      have z8 : WF.cell? ⟨w.heap.size, 8, none⟩ = some (.int .u64 (x8 : Int)) := row.cell (i := 8) (by decide)
      have z9 : WF.cell? ⟨w.heap.size, 9, none⟩ = some (.int .u64 (x9 : Int)) := row.cell (i := 9) (by decide)
      have z10 : WF.cell? ⟨w.heap.size, 10, none⟩ = some (.int .u64 (x10 : Int)) := row.cell (i := 10) (by decide)
      have z11 : WF.cell? ⟨w.heap.size, 11, none⟩ = some (.int .u64 (x11 : Int)) := row.cell (i := 11) (by decide)
      have z12 : WF.cell? ⟨w.heap.size, 12, none⟩ = some (.int .u64 (x12 : Int)) := row.cell (i := 12) (by decide)
      have z13 : WF.cell? ⟨w.heap.size, 13, none⟩ = some (.int .u64 (x13 : Int)) := row.cell (i := 13) (by decide)
      have z14 : WF.cell? ⟨w.heap.size, 14, none⟩ = some (.int .u64 (x14 : Int)) := row.cell (i := 14) (by decide)
      have z15 : WF.cell? ⟨w.heap.size, 15, none⟩ = some (.int .u64 (x15 : Int)) := row.cell (i := 15) (by decide)
      exact bodyPost_ret (v := .agg (wordsA [x0, x1, x2, x3, x4, x5, x6, x7, x8, x9, x10, x11, x12, x13, x14, x15])) (by simp [results, Try.f115, go_sem, wordsA, z0, z1, z2, z3, z4, z5, z6, z7, z8, z9, z10, z11, z12, z13, z14, z15]) rfl ⟨by rw [HWS.out], hbz⟩

end Go.Proofs.Ytohahlnhbppnhaa
