/- Contracts of the service's small methods: sum, done, latest. -/
import Derived.Test.YtgapbaelifcifaaD
namespace Go.Proofs.Ytgapbaelifcifaa
open Go.RowKit

/-- A sitting at an office, as the program holds it. -/
structure Sv where
  len : Int
  long : Int
  short : Int
  due : Int
  delay : Int
  pa : Option Addr
  ca : Option Addr
  ta : Option Addr
  pn : Nat
  pc : Nat
  cn : Nat
  cc : Nat
  tn : Nat
  tc : Nat

/-- A slice's elements, three numbers each, as they lie in memory. -/
def Crew (w : World) (a : Option Addr) (C : List (Int × Int × Int)) : Prop :=
  ∀ i, i < C.length → ∃ b off, a = some ⟨b, off, none⟩ ∧ w.cell? ⟨b, off + i * 3, none⟩ = some (.int .i64 (C.getD i (0, 0, 0)).1) ∧ w.cell? ⟨b, off + i * 3 + 1, none⟩ = some (.int .i64 (C.getD i (0, 0, 0)).2.1) ∧ w.cell? ⟨b, off + i * 3 + 2, none⟩ = some (.int .i64 (C.getD i (0, 0, 0)).2.2)

theorem Crew.grown {w w' : World} {a : Option Addr} {C : List (Int × Int × Int)} (h : Crew w a C) (hb : Below w.heap.size w w') : Crew w' a C := fun i hi =>
  let ⟨b, off, ha, h1, h2, h3⟩ := h i hi
  ⟨b, off, ha, cell_grown hb h1, cell_grown hb h2, cell_grown hb h3⟩

/-- Numbers, as they lie in memory. -/
def Ints (w : World) (a : Option Addr) (Z : List Int) : Prop :=
  ∀ i, i < Z.length → ∃ b off, a = some ⟨b, off, none⟩ ∧ w.cell? ⟨b, off + i, none⟩ = some (.int .i64 (Z.getD i 0))

theorem Ints.grown {w w' : World} {a : Option Addr} {Z : List Int} (h : Ints w a Z) (hb : Below w.heap.size w w') : Ints w' a Z := fun i hi =>
  let ⟨b, off, ha, h1⟩ := h i hi
  ⟨b, off, ha, cell_grown hb h1⟩

/-- The service is as it has to be: its crew is C, its takes are T. -/
structure SvOk (s : Sv) (C : List (Int × Int × Int)) (T : List (Int × Int)) (w : World) : Prop where
  cn : C.length = s.cn
  c5 : s.cn ≤ 5
  tn : T.length = s.tn
  t40 : s.tn ≤ 40
  crew : Crew w s.ca C
  takes : Spans w s.ta T
  bC : ∀ i, i < s.cn → 0 ≤ (C.getD i (0, 0, 0)).1 ∧ (C.getD i (0, 0, 0)).1 ≤ (C.getD i (0, 0, 0)).2.1 ∧ (C.getD i (0, 0, 0)).2.1 ≤ 20 ∧ 0 ≤ (C.getD i (0, 0, 0)).2.2 ∧ (C.getD i (0, 0, 0)).2.2 ≤ 36000
  bT : ∀ k, k < s.tn → 0 ≤ (T.getD k (0, 0)).1 ∧ (T.getD k (0, 0)).1 < (T.getD k (0, 0)).2 ∧ (T.getD k (0, 0)).2 ≤ 36000
  due : 0 ≤ s.due ∧ s.due ≤ 36000
  delay : 0 ≤ s.delay ∧ s.delay ≤ 36000

theorem SvOk.grown {s : Sv} {C : List (Int × Int × Int)} {T : List (Int × Int)} {w w' : World} (h : SvOk s C T w) (hb : Below w.heap.size w w') : SvOk s C T w' :=
  { h with crew := h.crew.grown hb, takes := h.takes.grown hb }

set_option maxHeartbeats 400000 in
theorem sum_any (Z : List Int) (n cap : Nat) (a : Option Addr) (w : World) (hn : Z.length = n) (h8 : n ≤ 8) (hI : Ints w a Z) (hb : ∀ i, i < n → 0 ≤ Z.getD i 0 ∧ Z.getD i 0 ≤ 1000000000) :
    Calls Try.prog 82 #[.slice a n cap] w fun e w' => e = .returned (.int .i64 Z.sum) ∧ w = w' := by
  have HN := hid hn
  clear hn
  go_enter Try.func82, Try.ntmps82
  go_wp2
  go_loop [3, 8] (fun t i => ∃ k : Nat, k ≤ n ∧ i = .int .i64 k ∧ t = .int .i64 (Z.take k).sum ∧ 0 ≤ (Z.take k).sum ∧ (Z.take k).sum ≤ k * 1000000000) (fun _ i => n - (intOf i).toNat)
  case atStart => exact ⟨0, by omega, rfl, rfl, by simp, by simp⟩
  case round =>
    obtain ⟨k, hk, rfl, rfl, hs0, hs1⟩ := hrel
    by_cases hlt : k < n
    · obtain ⟨b, off, rfl, hc⟩ := hI k (by rw [HN.out]; exact hlt)
      have hz := hb k hlt
      have hst : (Z.take (k + 1)).sum = (Z.take k).sum + Z.getD k 0 := by
        rw [List.take_succ_eq_append_getElem (by rw [HN.out]; exact hlt), List.sum_append]
        simp [List.getElem?_eq_getElem (show k < Z.length by rw [HN.out]; exact hlt)]
      generalize Z.getD k 0 = z at hc hz hst
      generalize hq : (Z.take k).sum = q at hs0 hs1 hst ⊢
      have HS := hid hst
      have HQ := hid hq
      clear hst hq
      go_wp2
      go_round
      case rel => exact ⟨k + 1, by omega, by go_num, by rw [HS.out], by rw [HS.out]; omega, by rw [HS.out]; omega⟩
      case measure => simp [intOf]; omega
    · obtain rfl : k = n := by omega
      go_wp2
      go_ret
      exact ⟨by rw [List.take_of_length_le (by rw [HN.out]; omega)]; rfl, rfl⟩

def doneM (T : List (Int × Int)) (k : Nat) (slow delay : Int) : Int := (T.getD k (0, 0)).2 + (((T.getD k (0, 0)).2 - (T.getD k (0, 0)).1) * slow + delay)

theorem mul_bd {x y : Int} (h1 : 0 ≤ x) (h2 : x ≤ 36000) (h3 : 0 ≤ y) (h4 : y ≤ 20) : 0 ≤ x * y ∧ x * y ≤ 720000 := by
  refine ⟨Int.mul_nonneg h1 h3, ?_⟩
  have := Int.mul_le_mul h2 h4 h3 (by omega)
  omega

theorem ints3 (w : World) (x y z : Int) (g : Nat) (hg : g = w.heap.size) : Ints (w.alloc (.cells #[.int .i64 x, .int .i64 y, .int .i64 z] 3)) (some ⟨g, 0, none⟩) [x, y, z] := by
  subst hg
  intro i hi
  refine ⟨w.heap.size, 0, rfl, ?_⟩
  match i, hi with
  | 0, _ => simp
  | 1, _ => simp
  | 2, _ => simp

theorem ints2 (w : World) (x y : Int) (g : Nat) (hg : g = w.heap.size) : Ints (w.alloc (.cells #[.int .i64 x, .int .i64 y] 3)) (some ⟨g, 0, none⟩) [x, y] := by
  subst hg
  intro i hi
  refine ⟨w.heap.size, 0, rfl, ?_⟩
  match i, hi with
  | 0, _ => simp
  | 1, _ => simp

set_option maxHeartbeats 400000 in
theorem done_any (s : Sv) (C : List (Int × Int × Int)) (T : List (Int × Int)) (k : Nat) (slow delay : Int) (w : World) (hs : SvOk s C T w) (hk : k < s.tn) (h1 : 0 ≤ slow) (h2 : slow ≤ 20) (h3 : 0 ≤ delay) (h4 : delay ≤ 36000) :
    Calls Try.prog 65 #[.agg #[.int .i64 s.len, .slice s.pa s.pn s.pc, .int .i64 s.long, .int .i64 s.short, .slice s.ca s.cn s.cc, .int .i64 s.due, .int .i64 s.delay, .slice s.ta s.tn s.tc], .int .i64 (k : Int), .agg #[.int .i64 slow, .int .i64 delay]] w fun e w' => e = .returned (.int .i64 (doneM T k slow delay)) ∧ Below w.heap.size w w' := by
  obtain ⟨b, off, hta, e1, e2⟩ := hs.takes k (by rw [hs.tn]; exact hk)
  have hbT := hs.bT k hk
  have hD : Hid (doneM T k slow delay = (T.getD k (0, 0)).2 + (((T.getD k (0, 0)).2 - (T.getD k (0, 0)).1) * slow + delay)) := hid rfl
  generalize doneM T k slow delay = d at hD ⊢
  generalize T.getD k (0, 0) = x at e1 e2 hbT hD
  obtain ⟨x1, x2⟩ := x
  simp only at e1 e2 hbT hD
  have hm := mul_bd (x := x2 - x1) (y := slow) (by omega) (by omega) h1 h2
  have gb := lt_of_cell e1
  have ht40 := hs.t40
  clear hs
  go_enter Try.func65, Try.ntmps65
  go_wp2_with fail
  refine (sum_any [x2, (x2 - x1) * slow, delay] 3 3 _ _ rfl (by omega) (ints3 _ _ _ _ _ (by simp)) ?_).mono ?_
  · intro i hi
    match i, hi with
    | 0, _ => simp; omega
    | 1, _ => simp; omega
    | 2, _ => simp; omega
  rintro e w' ⟨rfl, rfl⟩
  go_wp2
  go_ret
  exact ⟨by rw [hD.out]; simp, ((((Below.refl _ _).alloc (Nat.le_refl _) _).alloc (by simp) _).alloc (by simp; omega) _).alloc (by simp; omega) _⟩

end Go.Proofs.Ytgapbaelifcifaa
