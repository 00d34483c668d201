/- Relieve: the chooser that is handed to the search. -/
import Derived.Test.YtgapbaelifcifaaAI
import Derived.Test.YtgapbaelifcifaaCB
namespace Go.Proofs.Ytgapbaelifcifaa
open Go.RowKit

theorem nat_beq (a b : Nat) : ((a : Int) == (b : Int)) = decide (a = b) := by
  rw [Bool.eq_iff_iff]
  simp only [beq_iff_eq, decide_eq_true_eq]
  omega

/-- How the search for a rota goes after a reporter is relieved. -/
def howW (rel : Nat) (second : Int) (R : List Nat) (due delay : Int) (C : List (Int × Int × Int)) (T : List (Int × Int)) : How :=
  { howOf due delay C T with may := fun k r b => if (T.getD k (0, 0)).1 < second then decide (r = R.getD k 0) else !decide (r = rel) && (howOf due delay C T).may k r b }

/-- What the closure holds. -/
structure Held (w : World) (q1 q2 q3 q4 : Nat) (len long short due delay : Int) (pa ca ta a : Option Addr) (pn pc cn cc tn tc n cap : Nat) (second : Int) (rel : Nat) : Prop where
  v0 : w.cell? ⟨q1, 0, none⟩ = some (.int .i64 len)
  v1 : w.cell? ⟨q1, 1, none⟩ = some (.slice pa pn pc)
  v2 : w.cell? ⟨q1, 2, none⟩ = some (.int .i64 long)
  v3 : w.cell? ⟨q1, 3, none⟩ = some (.int .i64 short)
  v4 : w.cell? ⟨q1, 4, none⟩ = some (.slice ca cn cc)
  v5 : w.cell? ⟨q1, 5, none⟩ = some (.int .i64 due)
  v6 : w.cell? ⟨q1, 6, none⟩ = some (.int .i64 delay)
  v7 : w.cell? ⟨q1, 7, none⟩ = some (.slice ta tn tc)
  s : w.cell? ⟨q2, 0, none⟩ = some (.int .i64 second)
  r : w.cell? ⟨q3, 0, none⟩ = some (.slice a n cap)
  e : w.cell? ⟨q4, 0, none⟩ = some (.int .i64 (rel : Int))

theorem Held.grown {w w' : World} {q1 q2 q3 q4 : Nat} {len long short due delay : Int} {pa ca ta a : Option Addr} {pn pc cn cc tn tc n cap : Nat} {second : Int} {rel : Nat} (h : Held w q1 q2 q3 q4 len long short due delay pa ca ta a pn pc cn cc tn tc n cap second rel) (hb : Below w.heap.size w w') : Held w' q1 q2 q3 q4 len long short due delay pa ca ta a pn pc cn cc tn tc n cap second rel :=
  ⟨cell_grown hb h.v0, cell_grown hb h.v1, cell_grown hb h.v2, cell_grown hb h.v3, cell_grown hb h.v4, cell_grown hb h.v5, cell_grown hb h.v6, cell_grown hb h.v7, cell_grown hb h.s, cell_grown hb h.r, cell_grown hb h.e⟩

set_option maxRecDepth 100000 in
set_option maxHeartbeats 1000000 in
theorem without_may (q1 q2 q3 q4 : Nat) (len long short due delay : Int) (pa ca ta a : Option Addr) (pn pc cn cc tn tc cap : Nat) (second : Int) (rel : Nat) (C : List (Int × Int × Int)) (T : List (Int × Int)) (R : List Nat) (h0 h1 h2 h3 h4 k r : Nat) (w : World)
    (hs : SvOk ⟨len, long, short, due, delay, pa, ca, ta, pn, pc, cn, cc, tn, tc⟩ C T w) (hH : Held w q1 q2 q3 q4 len long short due delay pa ca ta a pn pc cn cc tn tc tn cap second rel) (hR : R.length = tn) (hI : Ints w a (R.map fun r : Nat => (r : Int))) (hk : k < tn) (hr : r < cn) :
    Calls Try.prog 83 #[.agg #[.int .i64 (h0 : Int), .int .i64 (h1 : Int), .int .i64 (h2 : Int), .int .i64 (h3 : Int), .int .i64 (h4 : Int)], .int .i64 (k : Int), .int .i64 (r : Int), .pointer (some ⟨q1, 0, none⟩), .pointer (some ⟨q2, 0, none⟩), .pointer (some ⟨q3, 0, none⟩), .pointer (some ⟨q4, 0, none⟩)] w fun e w' => e = .returned (.bool ((howW rel second R due delay C T).may k r (decide (([h0, h1, h2, h3, h4] : List Nat).getD r 0 ≤ k)))) ∧ Below w.heap.size w w' := by
  obtain ⟨z, hz⟩ : ∃ z, (howW rel second R due delay C T).may k r (decide (([h0, h1, h2, h3, h4] : List Nat).getD r 0 ≤ k)) = z := ⟨_, rfl⟩
  rw [hz]
  have h40 := hs.t40
  have h5 := hs.c5
  simp only at h40 h5
  obtain ⟨tb, to, eta, d1, -⟩ := hs.takes k (by rw [hs.tn]; exact hk)
  obtain ⟨rb, ro, era, g1⟩ := hI k (by rw [List.length_map, hR]; exact hk)
  have hg : (R.map fun r : Nat => (r : Int)).getD k 0 = ((R.getD k 0 : Nat) : Int) := by
    have : k < R.length := by rw [hR]; exact hk
    simp [List.getD_eq_getElem?_getD, List.getElem?_map, List.getElem?_eq_getElem this]
  rw [hg] at g1
  have HZ : Hid ((if (T.getD k (0, 0)).1 < second then decide (r = R.getD k 0) else !decide (r = rel) && mayM ⟨len, long, short, due, delay, pa, ca, ta, pn, pc, cn, cc, tn, tc⟩ C T [h0, h1, h2, h3, h4] k r) = z) := hid hz
  clear hz hg
  obtain ⟨x0, hx⟩ : ∃ x, (T.getD k (0, 0)).1 = x := ⟨_, rfl⟩
  obtain ⟨y0, hy⟩ : ∃ y, R.getD k 0 = y := ⟨_, rfl⟩
  rw [hx] at d1 HZ
  rw [hy] at g1 HZ
  simp only at eta
  subst eta
  subst era
  have HR := hid hR
  have HS := hid hs
  clear hx hy hR hI hs
  obtain ⟨mb, hmb⟩ : ∃ b, mayM ⟨len, long, short, due, delay, pa, ca, some ⟨tb, to, none⟩, pn, pc, cn, cc, tn, tc⟩ C T [h0, h1, h2, h3, h4] k r = b := ⟨_, rfl⟩
  have HM := hid hmb
  rw [hmb] at HZ
  clear hmb
  go_enter Try.func83, Try.ntmps83
  go_wp2_with fail
  obtain ⟨W0, hW0⟩ : ∃ W, W = w.alloc (.cells #[.int .i64 (h0 : Int), .int .i64 (h1 : Int), .int .i64 (h2 : Int), .int .i64 (h3 : Int), .int .i64 (h4 : Int)] 130) := ⟨_, rfl⟩
  have hB0 : Below w.heap.size w W0 := by rw [hW0]; exact (Below.refl _ w).alloc (Nat.le_refl _) _
  have zW : w.heap.size < W0.heap.size := by rw [hW0]; simp
  have y1 : W0.cell? ⟨w.heap.size, 0, none⟩ = some (.int .i64 (h0 : Int)) := by rw [hW0]; simp [go_sem]
  have y2 : W0.cell? ⟨w.heap.size, 1, none⟩ = some (.int .i64 (h1 : Int)) := by rw [hW0]; simp [go_sem]
  have y3 : W0.cell? ⟨w.heap.size, 2, none⟩ = some (.int .i64 (h2 : Int)) := by rw [hW0]; simp [go_sem]
  have y4 : W0.cell? ⟨w.heap.size, 3, none⟩ = some (.int .i64 (h3 : Int)) := by rw [hW0]; simp [go_sem]
  have y5 : W0.cell? ⟨w.heap.size, 4, none⟩ = some (.int .i64 (h4 : Int)) := by rw [hW0]; simp [go_sem]
  rw [← hW0]
  have H0 := hH.grown hB0
  obtain ⟨v0, v1, v2, v3, v4, v5, v6, v7, vs, vr, ve⟩ := H0
  replace d1 := cell_grown hB0 d1
  replace g1 := cell_grown hB0 g1
  have hs1 := HS.out.grown hB0
  clear hW0 hH HS
  have hkk : (k : Int) < tn := by omega
  have gb1 := lt_of_cell d1
  have gb2 := lt_of_cell g1
  by_cases hlt : x0 < second
  · have hz : decide (r = y0) = z := by have := HZ.out; rwa [if_pos hlt] at this
    clear HZ
    have hlt' : decide (x0 < second) = true := by simpa using hlt
    go_quiet (fail)
    go_wp2
    go_ret
    exact ⟨by rw [← hz, ← nat_beq]; rfl, below_drewN hB0 _⟩
  · have hlt' : decide (x0 < second) = false := by simpa using hlt
    by_cases he : r = rel
    · have hz : false = z := by have := HZ.out; rw [if_neg hlt] at this; simpa [he] using this
      subst hz
      clear HZ
      subst he
      go_quiet (fail)
      go_wp2
      go_ret
      exact ⟨rfl, below_drewN hB0 _⟩
    · have hz : mb = z := by have := HZ.out; rw [if_neg hlt] at this; simpa [he] using this
      subst hz
      clear HZ
      have he' : ¬ ((r : Int) = (rel : Int)) := by omega
      go_quiet (fail)
      go_wp2_with fail
      refine (mayHave_any ⟨len, long, short, due, delay, pa, ca, some ⟨tb, to, none⟩, pn, pc, cn, cc, tn, tc⟩ C T h0 h1 h2 h3 h4 k r _ (hs1.grown (below_drewN (Below.refl _ _) _)) hk hr).mono ?_
      rw [HM.out]
      rintro e w2 ⟨rfl, hb2⟩
      go_wp2
      go_ret
      exact ⟨by have hb : ((r : Int) != (rel : Int)) = true := (by simpa using he'); simp [hb], (below_drewN hB0 _).trans (hb2.mono (by simp; omega))⟩

end Go.Proofs.Ytgapbaelifcifaa
