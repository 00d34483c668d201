/- Contracts of the service's small methods: sum, done, latest. Contracts of the service's methods latest, again, mayHave, at. Contract of the service's method again. -/
import Derived.Test.YtgapbaelifcifaaD
import Derived.StillTailTactics
import Derived.Deep.RegionWith
import Derived.Deep.RegionHeld3
import Derived.Deep.QuietTactic
import Derived.BigQuiet
namespace Go.Proofs.Ytgapbaelifcifaa
open Go.RowKit

/-- A sitting at an office, as the program holds it. -/
structure Sv where
  len : Int
  long : Int
  short : Int
  due : Int
  delay : Int
  pa : Option Addr
  ca : Option Addr
  ta : Option Addr
  pn : Nat
  pc : Nat
  cn : Nat
  cc : Nat
  tn : Nat
  tc : Nat

/-- A slice's elements, three numbers each, as they lie in memory. -/
def Crew (w : World) (a : Option Addr) (C : List (Int × Int × Int)) : Prop :=
  ∀ i, i < C.length → ∃ b off, a = some ⟨b, off, none⟩ ∧ w.cell? ⟨b, off + i * 3, none⟩ = some (.int .i64 (C.getD i (0, 0, 0)).1) ∧ w.cell? ⟨b, off + i * 3 + 1, none⟩ = some (.int .i64 (C.getD i (0, 0, 0)).2.1) ∧ w.cell? ⟨b, off + i * 3 + 2, none⟩ = some (.int .i64 (C.getD i (0, 0, 0)).2.2)

theorem Crew.grown {w w' : World} {a : Option Addr} {C : List (Int × Int × Int)} (h : Crew w a C) (hb : Below w.heap.size w w') : Crew w' a C := fun i hi =>
  let ⟨b, off, ha, h1, h2, h3⟩ := h i hi
  ⟨b, off, ha, cell_grown hb h1, cell_grown hb h2, cell_grown hb h3⟩

/-- Numbers, as they lie in memory. -/
def Ints (w : World) (a : Option Addr) (Z : List Int) : Prop :=
  ∀ i, i < Z.length → ∃ b off, a = some ⟨b, off, none⟩ ∧ w.cell? ⟨b, off + i, none⟩ = some (.int .i64 (Z.getD i 0))

theorem Ints.grown {w w' : World} {a : Option Addr} {Z : List Int} (h : Ints w a Z) (hb : Below w.heap.size w w') : Ints w' a Z := fun i hi =>
  let ⟨b, off, ha, h1⟩ := h i hi
  ⟨b, off, ha, cell_grown hb h1⟩

/-- The service is as it has to be: its crew is C, its takes are T. -/
structure SvOk (s : Sv) (C : List (Int × Int × Int)) (T : List (Int × Int)) (w : World) : Prop where
  cn : C.length = s.cn
  c5 : s.cn ≤ 5
  tn : T.length = s.tn
  t40 : s.tn ≤ 40
  crew : Crew w s.ca C
  takes : Spans w s.ta T
  bC : ∀ i, i < s.cn → 0 ≤ (C.getD i (0, 0, 0)).1 ∧ (C.getD i (0, 0, 0)).1 ≤ (C.getD i (0, 0, 0)).2.1 ∧ (C.getD i (0, 0, 0)).2.1 ≤ 20 ∧ 0 ≤ (C.getD i (0, 0, 0)).2.2 ∧ (C.getD i (0, 0, 0)).2.2 ≤ 36000
  bT : ∀ k, k < s.tn → 0 ≤ (T.getD k (0, 0)).1 ∧ (T.getD k (0, 0)).1 < (T.getD k (0, 0)).2 ∧ (T.getD k (0, 0)).2 ≤ 36000
  due : 0 ≤ s.due ∧ s.due ≤ 36000
  delay : 0 ≤ s.delay ∧ s.delay ≤ 36000

theorem SvOk.grown {s : Sv} {C : List (Int × Int × Int)} {T : List (Int × Int)} {w w' : World} (h : SvOk s C T w) (hb : Below w.heap.size w w') : SvOk s C T w' :=
  { h with crew := h.crew.grown hb, takes := h.takes.grown hb }

set_option maxHeartbeats 400000 in
theorem sum_any (Z : List Int) (n cap : Nat) (a : Option Addr) (w : World) (hn : Z.length = n) (h8 : n ≤ 8) (hI : Ints w a Z) (hb : ∀ i, i < n → 0 ≤ Z.getD i 0 ∧ Z.getD i 0 ≤ 1000000000) :
    Calls Try.prog 82 #[.slice a n cap] w fun e w' => e = .returned (.int .i64 Z.sum) ∧ w = w' := by
  have HN := hid hn
  clear hn
  go_enter Try.func82, Try.ntmps82
  go_wp2
  go_loop [3, 8] (fun t i => ∃ k : Nat, k ≤ n ∧ i = .int .i64 k ∧ t = .int .i64 (Z.take k).sum ∧ 0 ≤ (Z.take k).sum ∧ (Z.take k).sum ≤ k * 1000000000) (fun _ i => n - (intOf i).toNat)
  case atStart => exact ⟨0, by omega, rfl, rfl, by simp, by simp⟩
  case round =>
    obtain ⟨k, hk, rfl, rfl, hs0, hs1⟩ := hrel
    by_cases hlt : k < n
    · obtain ⟨b, off, rfl, hc⟩ := hI k (by rw [HN.out]; exact hlt)
      have hz := hb k hlt
      have hst : (Z.take (k + 1)).sum = (Z.take k).sum + Z.getD k 0 := by
        rw [List.take_succ_eq_append_getElem (by rw [HN.out]; exact hlt), List.sum_append]
        simp [List.getElem?_eq_getElem (show k < Z.length by rw [HN.out]; exact hlt)]
      generalize Z.getD k 0 = z at hc hz hst
      generalize hq : (Z.take k).sum = q at hs0 hs1 hst ⊢
      have HS := hid hst
      have HQ := hid hq
      clear hst hq
      go_wp2
      go_round
      case rel => exact ⟨k + 1, by omega, by go_num, by rw [HS.out], by rw [HS.out]; omega, by rw [HS.out]; omega⟩
      case measure => simp [intOf]; omega
    · obtain rfl : k = n := by omega
      go_wp2
      go_ret
      exact ⟨by rw [List.take_of_length_le (by rw [HN.out]; omega)]; rfl, rfl⟩

def doneM (T : List (Int × Int)) (k : Nat) (slow delay : Int) : Int := (T.getD k (0, 0)).2 + (((T.getD k (0, 0)).2 - (T.getD k (0, 0)).1) * slow + delay)

theorem mul_bd {x y : Int} (h1 : 0 ≤ x) (h2 : x ≤ 36000) (h3 : 0 ≤ y) (h4 : y ≤ 20) : 0 ≤ x * y ∧ x * y ≤ 720000 := by
  refine ⟨Int.mul_nonneg h1 h3, ?_⟩
  have := Int.mul_le_mul h2 h4 h3 (by omega)
  omega

theorem ints3 (w : World) (x y z : Int) (g : Nat) (hg : g = w.heap.size) : Ints (w.alloc (.cells #[.int .i64 x, .int .i64 y, .int .i64 z] 3)) (some ⟨g, 0, none⟩) [x, y, z] := by
  subst hg
  intro i hi
  refine ⟨w.heap.size, 0, rfl, ?_⟩
  match i, hi with
  | 0, _ => simp
  | 1, _ => simp
  | 2, _ => simp

theorem ints2 (w : World) (x y : Int) (g : Nat) (hg : g = w.heap.size) : Ints (w.alloc (.cells #[.int .i64 x, .int .i64 y] 3)) (some ⟨g, 0, none⟩) [x, y] := by
  subst hg
  intro i hi
  refine ⟨w.heap.size, 0, rfl, ?_⟩
  match i, hi with
  | 0, _ => simp
  | 1, _ => simp

set_option maxHeartbeats 400000 in
theorem done_any (s : Sv) (C : List (Int × Int × Int)) (T : List (Int × Int)) (k : Nat) (slow delay : Int) (w : World) (hs : SvOk s C T w) (hk : k < s.tn) (h1 : 0 ≤ slow) (h2 : slow ≤ 20) (h3 : 0 ≤ delay) (h4 : delay ≤ 36000) :
    Calls Try.prog 65 #[.agg #[.int .i64 s.len, .slice s.pa s.pn s.pc, .int .i64 s.long, .int .i64 s.short, .slice s.ca s.cn s.cc, .int .i64 s.due, .int .i64 s.delay, .slice s.ta s.tn s.tc], .int .i64 (k : Int), .agg #[.int .i64 slow, .int .i64 delay]] w fun e w' => e = .returned (.int .i64 (doneM T k slow delay)) ∧ Below w.heap.size w w' := by
  obtain ⟨b, off, hta, e1, e2⟩ := hs.takes k (by rw [hs.tn]; exact hk)
  have hbT := hs.bT k hk
  have hD : Hid (doneM T k slow delay = (T.getD k (0, 0)).2 + (((T.getD k (0, 0)).2 - (T.getD k (0, 0)).1) * slow + delay)) := hid rfl
  generalize doneM T k slow delay = d at hD ⊢
  generalize T.getD k (0, 0) = x at e1 e2 hbT hD
  obtain ⟨x1, x2⟩ := x
  simp only at e1 e2 hbT hD
  have hm := mul_bd (x := x2 - x1) (y := slow) (by omega) (by omega) h1 h2
  have gb := lt_of_cell e1
  have ht40 := hs.t40
  clear hs
  go_enter Try.func65, Try.ntmps65
  go_wp2_with fail
  refine (sum_any [x2, (x2 - x1) * slow, delay] 3 3 _ _ rfl (by omega) (ints3 _ _ _ _ _ (by simp)) ?_).mono ?_
  · intro i hi
    match i, hi with
    | 0, _ => simp; omega
    | 1, _ => simp; omega
    | 2, _ => simp; omega
  rintro e w' ⟨rfl, rfl⟩
  go_wp2
  go_ret
  exact ⟨by rw [hD.out]; simp, ((((Below.refl _ _).alloc (Nat.le_refl _) _).alloc (by simp) _).alloc (by simp; omega) _).alloc (by simp; omega) _⟩

end Go.Proofs.Ytgapbaelifcifaa

namespace Go.Proofs.Ytgapbaelifcifaa
open Go.RowKit

def latestM (s : Sv) (C : List (Int × Int × Int)) (T : List (Int × Int)) (k r : Nat) : Int := doneM T k (C.getD r (0, 0, 0)).2.1 s.delay

set_option maxRecDepth 100000 in
set_option maxHeartbeats 400000 in
theorem latest_any (s : Sv) (C : List (Int × Int × Int)) (T : List (Int × Int)) (k r : Nat) (w : World) (hs : SvOk s C T w) (hk : k < s.tn) (hr : r < s.cn) :
    Calls Try.prog 77 #[.agg #[.int .i64 s.len, .slice s.pa s.pn s.pc, .int .i64 s.long, .int .i64 s.short, .slice s.ca s.cn s.cc, .int .i64 s.due, .int .i64 s.delay, .slice s.ta s.tn s.tc], .int .i64 (k : Int), .int .i64 (r : Int)] w fun e w' => e = .returned (.int .i64 (latestM s C T k r)) ∧ Below w.heap.size w w' := by
  obtain ⟨len, long, short, due, delay, pa, ca, ta, pn, pc, cn, cc, tn, tc⟩ := s
  have hD : Hid (latestM ⟨len, long, short, due, delay, pa, ca, ta, pn, pc, cn, cc, tn, tc⟩ C T k r = doneM T k (C.getD r (0, 0, 0)).2.1 delay) := hid rfl
  generalize latestM ⟨len, long, short, due, delay, pa, ca, ta, pn, pc, cn, cc, tn, tc⟩ C T k r = d at hD ⊢
  obtain ⟨b, off, hta, e1, e2, e3⟩ := hs.crew r (by rw [hs.cn]; exact hr)
  have hbC := hs.bC r hr
  generalize C.getD r (0, 0, 0) = x at e1 e2 e3 hbC hD
  obtain ⟨x1, x2, x3⟩ := x
  simp only at hta e1 e2 e3 hbC hD hk hr ⊢
  subst hta
  have gb := lt_of_cell e1
  have h5 := hs.c5
  have hdl := hs.delay
  simp only at h5 hdl
  go_enter Try.func77, Try.ntmps77
  go_wp2_with fail
  obtain ⟨W1, hW1⟩ : ∃ W, W = w.alloc (.cells #[.int .i64 len, .slice pa pn pc, .int .i64 long, .int .i64 short, .slice (some ⟨b, off, none⟩) cn cc, .int .i64 due, .int .i64 delay, .slice ta tn tc] 106) := ⟨_, rfl⟩
  have hBW1 : Below w.heap.size w W1 := by rw [hW1]; exact (Below.refl _ _).alloc (Nat.le_refl _) _
  have zW1 : w.heap.size < W1.heap.size := by rw [hW1]; simp
  have y0 : W1.cell? ⟨w.heap.size, 0, none⟩ = some (.int .i64 len) := by rw [hW1]; simp
  have y1 : W1.cell? ⟨w.heap.size, 1, none⟩ = some (.slice pa pn pc) := by rw [hW1]; simp
  have y2 : W1.cell? ⟨w.heap.size, 2, none⟩ = some (.int .i64 long) := by rw [hW1]; simp
  have y3 : W1.cell? ⟨w.heap.size, 3, none⟩ = some (.int .i64 short) := by rw [hW1]; simp
  have y4 : W1.cell? ⟨w.heap.size, 4, none⟩ = some (.slice (some ⟨b, off, none⟩) cn cc) := by rw [hW1]; simp
  have y5 : W1.cell? ⟨w.heap.size, 5, none⟩ = some (.int .i64 due) := by rw [hW1]; simp
  have y6 : W1.cell? ⟨w.heap.size, 6, none⟩ = some (.int .i64 delay) := by rw [hW1]; simp
  have y7 : W1.cell? ⟨w.heap.size, 7, none⟩ = some (.slice ta tn tc) := by rw [hW1]; simp
  have g1 := cell_grown hBW1 e1
  have g2 := cell_grown hBW1 e2
  rw [← hW1]
  have hs1 := hid (hs.grown hBW1)
  clear hW1 hs
  go_still_tail 14, (by kernel_rfl)
  change wpList _ _ _ _ _ W1.drew
  go_wp2_with fail
  refine (done_any _ C T k x2 delay _ (hs1.out.grown (below_drewN (Below.refl _ _) 1)) hk (by omega) (by omega) (by omega) (by omega)).mono ?_
  rintro e w' ⟨rfl, hb⟩
  go_wp2
  go_ret
  exact ⟨by rw [hD.out]; rfl, (below_drewN hBW1 1).trans (hb.mono (show w.heap.size ≤ W1.heap.size from Nat.le_of_lt zW1))⟩

end Go.Proofs.Ytgapbaelifcifaa

namespace Go.Proofs.Ytgapbaelifcifaa
open Go.RowKit

/-- The first take from j on that does not begin before a second, or how many there are. -/
def nextFrom (T : List (Int × Int)) (free : Int) : Nat → Nat → Nat
  | 0, j => j
  | f + 1, j => if j < T.length ∧ (T.getD j (0, 0)).1 < free then nextFrom T free f (j + 1) else j

def freeM (s : Sv) (C : List (Int × Int × Int)) (T : List (Int × Int)) (k r : Nat) : Int := latestM s C T k r + (C.getD r (0, 0, 0)).2.2

def againM (s : Sv) (C : List (Int × Int × Int)) (T : List (Int × Int)) (k r : Nat) : Nat := nextFrom T (freeM s C T k r) (T.length - (k + 1)) (k + 1)

theorem latestM_bd {s : Sv} {C : List (Int × Int × Int)} {T : List (Int × Int)} {w : World} (hs : SvOk s C T w) {k r : Nat} (hk : k < s.tn) (hr : r < s.cn) : 0 ≤ latestM s C T k r ∧ latestM s C T k r ≤ 800000 := by
  have h1 := hs.bT k hk
  have h2 := hs.bC r hr
  have h3 := hs.delay
  unfold latestM doneM
  have := mul_bd (x := (T.getD k (0, 0)).2 - (T.getD k (0, 0)).1) (y := (C.getD r (0, 0, 0)).2.1) (by omega) (by omega) (by omega) (by omega)
  omega

theorem nextFrom_step (T : List (Int × Int)) (free : Int) (j : Nat) (hj : j < T.length) : nextFrom T free (T.length - j) j = if (T.getD j (0, 0)).1 < free then nextFrom T free (T.length - (j + 1)) (j + 1) else j := by
  obtain ⟨f, hf⟩ : ∃ f, T.length - j = f + 1 := ⟨T.length - j - 1, by omega⟩
  rw [hf, nextFrom, show T.length - (j + 1) = f from by omega]
  simp [hj]

theorem nextFrom_end (T : List (Int × Int)) (free : Int) (j : Nat) (hj : T.length ≤ j) : nextFrom T free (T.length - j) j = j := by
  rw [show T.length - j = 0 from by omega, nextFrom]

set_option maxRecDepth 100000 in
set_option maxHeartbeats 1000000 in
theorem again_any (s : Sv) (C : List (Int × Int × Int)) (T : List (Int × Int)) (k r : Nat) (w : World) (hs : SvOk s C T w) (hk : k < s.tn) (hr : r < s.cn) :
    Calls Try.prog 76 #[.agg #[.int .i64 s.len, .slice s.pa s.pn s.pc, .int .i64 s.long, .int .i64 s.short, .slice s.ca s.cn s.cc, .int .i64 s.due, .int .i64 s.delay, .slice s.ta s.tn s.tc], .int .i64 (k : Int), .int .i64 (r : Int)] w fun e w' => e = .returned (.int .i64 (againM s C T k r : Nat)) ∧ Below w.heap.size w w' := by
  have hLB := latestM_bd hs hk hr
  obtain ⟨len, long, short, due, delay, pa, ca, ta, pn, pc, cn, cc, tn, tc⟩ := s
  obtain ⟨S, hS⟩ : ∃ S : Sv, S = ⟨len, long, short, due, delay, pa, ca, ta, pn, pc, cn, cc, tn, tc⟩ := ⟨_, rfl⟩
  simp only at hk hr ⊢
  rw [← hS] at hLB ⊢
  have hA : Hid (againM S C T k r = nextFrom T (latestM S C T k r + (C.getD r (0, 0, 0)).2.2) (T.length - (k + 1)) (k + 1)) := hid rfl
  have hlat : ∀ W, SvOk S C T W → Calls Try.prog 77 #[.agg #[.int .i64 len, .slice pa pn pc, .int .i64 long, .int .i64 short, .slice ca cn cc, .int .i64 due, .int .i64 delay, .slice ta tn tc], .int .i64 (k : Int), .int .i64 (r : Int)] W fun e w' => e = .returned (.int .i64 (latestM S C T k r)) ∧ Below W.heap.size W w' := fun W h => by
    have := latest_any S C T k r W h (by rw [hS]; exact hk) (by rw [hS]; exact hr)
    rw [hS] at this ⊢
    exact this
  generalize againM S C T k r = m at hA ⊢
  generalize latestM S C T k r = L at hA hlat hLB
  obtain ⟨b, off, hca, e1, e2, e3⟩ := hs.crew r (by rw [hs.cn]; exact hr)
  have hbC := hs.bC r hr
  generalize C.getD r (0, 0, 0) = x at e1 e2 e3 hbC hA
  obtain ⟨x1, x2, x3⟩ := x
  rw [← hS] at hs
  simp only at hca e1 e2 e3 hbC hA
  have h5 : cn ≤ 5 := by have := hs.c5; rw [hS] at this; exact this
  have h40 : tn ≤ 40 := by have := hs.t40; rw [hS] at this; exact this
  have htn : Hid (T.length = tn) := hid (by have := hs.tn; rw [hS] at this; exact this)
  have htk : ∀ W, SvOk S C T W → Spans W ta T := fun W h => by have := h.takes; rw [hS] at this; exact this
  clear hS
  subst hca
  have gb := lt_of_cell e1
  go_enter Try.func76, Try.ntmps76
  go_wp2_with fail
  obtain ⟨W1, hW1⟩ : ∃ W, W = w.alloc (.cells #[.int .i64 len, .slice pa pn pc, .int .i64 long, .int .i64 short, .slice (some ⟨b, off, none⟩) cn cc, .int .i64 due, .int .i64 delay, .slice ta tn tc] 106) := ⟨_, rfl⟩
  have hBW1 : Below w.heap.size w W1 := by rw [hW1]; exact (Below.refl _ _).alloc (Nat.le_refl _) _
  have zW1 : w.heap.size < W1.heap.size := by rw [hW1]; simp
  have y0 : W1.cell? ⟨w.heap.size, 0, none⟩ = some (.int .i64 len) := by rw [hW1]; simp
  have y1 : W1.cell? ⟨w.heap.size, 1, none⟩ = some (.slice pa pn pc) := by rw [hW1]; simp
  have y2 : W1.cell? ⟨w.heap.size, 2, none⟩ = some (.int .i64 long) := by rw [hW1]; simp
  have y3 : W1.cell? ⟨w.heap.size, 3, none⟩ = some (.int .i64 short) := by rw [hW1]; simp
  have y4 : W1.cell? ⟨w.heap.size, 4, none⟩ = some (.slice (some ⟨b, off, none⟩) cn cc) := by rw [hW1]; simp
  have y5 : W1.cell? ⟨w.heap.size, 5, none⟩ = some (.int .i64 due) := by rw [hW1]; simp
  have y6 : W1.cell? ⟨w.heap.size, 6, none⟩ = some (.int .i64 delay) := by rw [hW1]; simp
  have y7 : W1.cell? ⟨w.heap.size, 7, none⟩ = some (.slice ta tn tc) := by rw [hW1]; simp
  have g3 := cell_grown hBW1 e3
  rw [← hW1]
  have hs1 := hs.grown hBW1
  clear hW1 hs
  go_region_held3 (fun w' => w'.cell? ⟨w.heap.size, 0, none⟩ = some (.int .i64 len) ∧ w'.cell? ⟨w.heap.size, 1, none⟩ = some (.slice pa pn pc) ∧ w'.cell? ⟨w.heap.size, 2, none⟩ = some (.int .i64 long) ∧ w'.cell? ⟨w.heap.size, 3, none⟩ = some (.int .i64 short) ∧ w'.cell? ⟨w.heap.size, 4, none⟩ = some (.slice (some ⟨b, off, none⟩) cn cc) ∧ w'.cell? ⟨w.heap.size, 5, none⟩ = some (.int .i64 due) ∧ w'.cell? ⟨w.heap.size, 6, none⟩ = some (.int .i64 delay) ∧ w'.cell? ⟨w.heap.size, 7, none⟩ = some (.slice ta tn tc) ∧ w'.cell? ⟨b, off + r * 3 + 2, none⟩ = some (.int .i64 x3))
    (first | go_keep | exact ⟨cell_grown hb2 y0, cell_grown hb2 y1, cell_grown hb2 y2, cell_grown hb2 y3, cell_grown hb2 y4, cell_grown hb2 y5, cell_grown hb2 y6, cell_grown hb2 y7, cell_grown hb2 g3⟩)
    (first | (go_at_call 77; refine (hlat _ (hs1.grown (below_drewN (Below.refl _ _) 1))).mono ?_; rintro e w2 ⟨rfl, hb2⟩) | (go_at_call 82; refine (sum_any [L, x3] 2 2 _ _ rfl (by omega) (ints2 _ _ _ _ (by simp)) (fun i hi => by match i, hi with | 0, _ => (simp; omega) | 1, _ => (simp; omega))).mono ?_; rintro e w3 ⟨rfl, rfl⟩))
  have hs2 := hid (hs1.grown ((below_drewN (Below.refl _ _) 1).trans hb2))
  have hB2 : Below w.heap.size w w2 := (below_drewN hBW1 1).trans (hb2.mono (show w.heap.size ≤ W1.heap.size from Nat.le_of_lt zW1))
  have q7 := cell_grown hb2 (show W1.drew.cell? _ = _ from y7)
  have zq := lt_of_cell q7
  have hT2 := htk _ hs2.out
  clear y0 y1 y2 y3 y4 y5 y6 y7 g3 hs1 hlat
  go_wp2
  go_loop [8] (fun nx => ∃ j : Nat, k + 1 ≤ j ∧ j ≤ tn ∧ nx = .int .i64 j ∧ Hid (m = nextFrom T (L + x3) (T.length - j) j)) (fun nx => tn - (intOf nx).toNat)
  case atStart => exact ⟨k + 1, Nat.le_refl _, hk, rfl, hA⟩
  case round =>
    obtain ⟨j, hj1, hj2, rfl, HJ⟩ := hrel
    by_cases hlt : j < tn
    · have hst := nextFrom_step T (L + x3) j (by rw [htn.out]; exact hlt)
      obtain ⟨b', off', rfl, f1, f2⟩ := hT2 j (by rw [htn.out]; exact hlt)
      generalize T.getD j (0, 0) = y at f1 f2 hst
      obtain ⟨v1, v2⟩ := y
      simp only at f1 f2 hst
      have gb' := lt_of_cell f1
      by_cases hf : v1 < L + x3
      · rw [if_pos hf] at hst
        have HJ2 : Hid (m = nextFrom T (L + x3) (T.length - (j + 1)) (j + 1)) := hid (by rw [HJ.out, hst])
        clear hst HJ
        go_wp2
        go_round
        case rel => exact ⟨j + 1, by omega, by omega, by go_num, HJ2⟩
        case measure => simp [intOf]; omega
      · rw [if_neg hf] at hst
        have HJ2 : Hid (m = j) := hid (by rw [HJ.out, hst])
        clear hst HJ
        go_wp2
        go_ret
        exact ⟨by rw [HJ2.out]; rfl, hB2.trans ((Below.refl _ _).alloc (by omega) _)⟩
    · have HJ2 : Hid (m = j) := hid (by rw [HJ.out, nextFrom_end _ _ _ (by rw [htn.out]; omega)])
      clear HJ
      go_wp2
      go_ret
      exact ⟨by rw [HJ2.out]; rfl, hB2.trans ((Below.refl _ _).alloc (by omega) _)⟩

end Go.Proofs.Ytgapbaelifcifaa
