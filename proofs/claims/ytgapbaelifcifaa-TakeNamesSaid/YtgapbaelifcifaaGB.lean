/- Contracts of the law's ready and pick; when a right rota's reporters are free; what Rota and ProveRota say. -/
import Derived.Test.YtgapbaelifcifaaFJ
import Derived.Test.YtgapbaelifcifaaFH
namespace Go.Proofs.Ytgapbaelifcifaa
open Go.RowKit

theorem look_last {delay : Int} {C : List (Int × Int × Int)} {T : List (Int × Int)} {R : List Nat} {k r : Nat} : ∀ j, lookN delay C T R k r j = true → ∀ i, i < j → R.getD i 0 = r →
    freeW delay C T i r ≤ (T.getD k (0, 0)).1 ∨ ∃ i', i < i' ∧ i' < j ∧ R.getD i' 0 = r ∧ freeW delay C T i' r ≤ (T.getD k (0, 0)).1 := by
  intro j
  induction j with
  | zero => intro _ i hi; omega
  | succ j ih =>
    intro h i hi hr
    rw [lookN] at h
    by_cases e : R.getD j 0 = r
    · rw [if_pos e, decide_eq_true_eq] at h
      by_cases hij : i = j
      · subst hij; exact .inl h
      · exact .inr ⟨j, by omega, by omega, e, h⟩
    · rw [if_neg e] at h
      have hij : i ≠ j := fun hh => e (by rw [← hh]; exact hr)
      rcases ih h i (by omega) hr with h1 | ⟨i', h1, h2, h3, h4⟩
      · exact .inl h1
      · exact .inr ⟨i', h1, by omega, h3, h4⟩

theorem rota_free {due delay : Int} {C : List (Int × Int × Int)} {T : List (Int × Int)} {R : List Nat} {f t : Int} (hA : Asc f t T) (h : ∀ k, k < T.length → rotaOk due delay C T R k = true) :
    ∀ k, k < T.length → ∀ i, i < k → R.getD i 0 = R.getD k 0 → freeW delay C T i (R.getD k 0) ≤ (T.getD k (0, 0)).1 := by
  intro k
  induction k using Nat.strongRecOn with
  | ind k ih =>
    intro hk i hi hr
    have hok := h k hk
    unfold rotaOk at hok
    rw [Bool.and_eq_true] at hok
    rcases look_last k hok.2 i hi hr with h1 | ⟨i', h1, h2, h3, h4⟩
    · exact h1
    · have := ih i' h2 (by omega) i h1 (by rw [hr, h3])
      rw [h3] at this
      have h5 := asc_starts hA i' k (by omega) hk
      omega

def Words (w : World) (a : Option Addr) (n : Nat) : Prop :=
  ∀ i, i < n → ∃ b off x, a = some ⟨b, off, none⟩ ∧ w.cell? ⟨b, off + i, none⟩ = some (.int .u16 x) ∧ 0 ≤ x ∧ x ≤ 65535

theorem Words.grown {w w' : World} {a : Option Addr} {n : Nat} (h : Words w a n) (hb : Below w.heap.size w w') : Words w' a n := fun i hi =>
  let ⟨b, off, x, ha, h1, h2⟩ := h i hi
  ⟨b, off, x, ha, cell_grown hb h1, h2⟩

set_option maxRecDepth 100000 in
set_option maxHeartbeats 1000000 in
theorem pick_any (low high at_ : Int) (n cap : Nat) (a : Option Addr) (w : World) (hn : n ≤ maxLen) (hW : Words w a n) (h1 : 0 ≤ low ∧ low ≤ high ∧ high ≤ 40000) (h2 : 0 ≤ at_ ∧ at_ ≤ 1000000) :
    Calls Try.prog 49 #[.int .i64 low, .int .i64 high, .slice a n cap, .int .i64 at_] w fun e w' => ∃ z, e = .returned (.int .i64 z) ∧ (low ≤ z ∧ z ≤ high) ∧ w = w' := by
  unfold maxLen at hn
  by_cases hn0 : n = 0
  · subst hn0
    go_enter Try.func49, Try.ntmps49
    go_wp2
    go_ret
    exact ⟨low, rfl, ⟨Int.le_refl _, h1.2.1⟩, rfl⟩
  · have hni : ¬ (n : Int) = 0 := by omega
    have hnp : (0 : Int) < n := by omega
    obtain ⟨ix, hix⟩ : ∃ ix : Nat, at_ % (n : Int) = (ix : Int) := ⟨(at_ % (n : Int)).toNat, by have := Int.emod_nonneg at_ (show (n : Int) ≠ 0 by omega); omega⟩
    have hixl : (ix : Int) < n := by rw [← hix]; exact Int.emod_lt_of_pos _ hnp
    obtain ⟨b, off, x, rfl, e1, hx1, hx2⟩ := hW ix (by omega)
    have gb := lt_of_cell e1
    obtain ⟨z, hz⟩ : ∃ z, x % (high - low + 1) = z := ⟨_, rfl⟩
    have hz1 : 0 ≤ z := by rw [← hz]; exact Int.emod_nonneg _ (by omega)
    have hz2 : z < high - low + 1 := by rw [← hz]; exact Int.emod_lt_of_pos _ (by omega)
    go_enter Try.func49, Try.ntmps49
    go_wp2_with fail
    go_ret
    exact ⟨low + z, rfl, ⟨by omega, by omega⟩, rfl⟩

set_option maxRecDepth 100000 in
set_option maxHeartbeats 1000000 in
theorem ready_any (L : List (Int × Int)) (C : List (Int × Int × Int)) (len long short due delay : Int) (n cap m cc : Nat) (a ca : Option Addr) (w : World)
    (hL : L.length = n) (hn : n ≤ maxLen) (hS : Spans w a L) (hC : C.length = m) (hm : m ≤ maxLen) (hCr : Crew w ca C) :
    Calls Try.prog 48 #[.agg #[.int .i64 len, .slice a n cap, .int .i64 long, .int .i64 short], .agg #[.slice ca m cc, .int .i64 due, .int .i64 delay]] w fun e w' =>
      e = .returned (.bool ((decide (n ≤ 60) && decide (m ≤ 8)) && decide (faultM len long short due delay L C = 0))) ∧ Below w.heap.size w w' := by
  have hn' := hn
  have hm' := hm
  unfold maxLen at hn' hm'
  obtain ⟨z, hz⟩ : ∃ z, ((decide (n ≤ 60) && decide (m ≤ 8)) && decide (faultM len long short due delay L C = 0)) = z := ⟨_, rfl⟩
  rw [hz]
  have HZ := hid hz
  have HL := hid hL
  have HC := hid hC
  clear hL hC hz
  go_enter Try.func48, Try.ntmps48
  go_wp2_with fail
  obtain ⟨W0, hW0⟩ : ∃ W0, W0 = (w.alloc (.cells #[.int .i64 len, .slice a n cap, .int .i64 long, .int .i64 short] 24)).alloc (.cells #[.slice ca m cc, .int .i64 due, .int .i64 delay] 27) := ⟨_, rfl⟩
  have hB0 : Below w.heap.size w W0 := by rw [hW0]; exact ((Below.refl _ w).alloc (Nat.le_refl _) _).alloc (by simp) _
  have y0 : W0.cell? ⟨w.heap.size, 0, none⟩ = some (.int .i64 len) := by rw [hW0]; simp [go_sem]
  have y1 : W0.cell? ⟨w.heap.size, 1, none⟩ = some (.slice a n cap) := by rw [hW0]; simp [go_sem]
  have y2 : W0.cell? ⟨w.heap.size, 2, none⟩ = some (.int .i64 long) := by rw [hW0]; simp [go_sem]
  have y3 : W0.cell? ⟨w.heap.size, 3, none⟩ = some (.int .i64 short) := by rw [hW0]; simp [go_sem]
  have x0 : W0.cell? ⟨w.heap.size + 1, 0, none⟩ = some (.slice ca m cc) := by rw [hW0]; simp [go_sem]
  have x1 : W0.cell? ⟨w.heap.size + 1, 1, none⟩ = some (.int .i64 due) := by rw [hW0]; simp [go_sem]
  have x2 : W0.cell? ⟨w.heap.size + 1, 2, none⟩ = some (.int .i64 delay) := by rw [hW0]; simp [go_sem]
  rw [← hW0]
  clear hW0
  have hS0 := hS.grown hB0
  have hC0 := hCr.grown hB0
  refine (thin_any len long short due delay n cap m cc a ca W0 hn hm).mono ?_
  rintro e w1 ⟨rfl, hb1⟩
  replace y0 := cell_grown hb1 y0
  replace y1 := cell_grown hb1 y1
  replace y2 := cell_grown hb1 y2
  replace y3 := cell_grown hb1 y3
  replace x0 := cell_grown hb1 x0
  replace x1 := cell_grown hb1 x1
  replace x2 := cell_grown hb1 x2
  replace hS0 := hS0.grown hb1
  replace hC0 := hC0.grown hb1
  have hB1 := hB0.trans (hb1.mono hB0.size)
  cases th : (decide (n ≤ 60) && decide (m ≤ 8))
  · have hzf : z = false := by rw [← HZ.out, th]; rfl
    clear th
    go_wp2
    go_ret
    exact ⟨by rw [hzf]; rfl, hB1⟩
  · have hth : n ≤ 60 ∧ m ≤ 8 := by simpa using th
    have HZ2 : Hid (z = decide (faultM len long short due delay L C = 0)) := hid (by rw [← HZ.out, th]; rfl)
    clear th
    go_wp2_with fail
    refine (faultL_any L C len long short due delay n cap m cc a ca w1 HL.out hth.1 hS0 HC.out hm hC0).mono ?_
    obtain ⟨fv, hfv⟩ : ∃ f, faultM len long short due delay L C = f := ⟨_, rfl⟩
    rw [hfv] at HZ2 ⊢
    clear hfv
    rintro e w2 ⟨rfl, hb2⟩
    have hB2 := hB1.trans (hb2.mono hB1.size)
    by_cases h0 : fv = 0
    · subst h0
      go_wp2
      go_ret
      exact ⟨by rw [HZ2.out]; rfl, hB2⟩
    · have h0b : (fv == 0) = false := by simpa using h0
      go_wp2
      go_ret
      exact ⟨by rw [HZ2.out, decide_eq_false h0]; rfl, hB2⟩

theorem owns_cap {w : World} {base : Nat} {e : TypeId} {size : Nat} {a : Option Addr} {n cap : Nat} {xs : List Value} (h : w.ownsRow base e size (.slice a n cap) n xs) : n ≤ cap ∧ (a = none → cap = 0) := by
  rcases h.2 with ⟨h1, _⟩ | ⟨g, cap', cur, hv, _, _, hn, _⟩
  · cases h1
    exact ⟨Nat.le_refl _, fun _ => rfl⟩
  · cases hv
    exact ⟨hn, fun h => by simp at h⟩

theorem rota_one {len long short due delay : Int} {L : List (Int × Int)} {C : List (Int × Int × Int)} {w w' : World} {e : Ending} (h : RotaPost len long short due delay L C w e w') (hf : faultM len long short due delay L C = 0) :
    ∃ (va : Option Addr) (vn vc : Nat) (er : Int) (R : List Nat), e = .returned (.tuple #[.slice va vn vc, .int .i64 er]) ∧ Below w.heap.size w w' ∧ R.length = vn ∧ Ints w' va (R.map fun r : Nat => (r : Int)) ∧
      Hid ((er = 0 ∧ (howOf due delay C (takesOf len long short L)).best R 0 [0, 0, 0, 0, 0]) ∨ (er = 9 ∧ R = [] ∧ ∃ rc, rc < (takesOf len long short L).length ∧ (howOf due delay C (takesOf len long short L)).dead rc 0 [0, 0, 0, 0, 0])) := by
  obtain ⟨hb, ⟨h1, _⟩ | ⟨_, _, ⟨va, vc, R, rfl, hI, hbest⟩ | ⟨rfl, hdead⟩⟩⟩ := h
  · rw [serve_fault] at h1
    exact absurd hf h1
  · exact ⟨va, _, vc, 0, R, rfl, hb, rfl, hI, .inl ⟨rfl, hbest⟩⟩
  · exact ⟨none, 0, 0, 9, [], rfl, hb, rfl, fun i hi => by simp at hi, .inr ⟨rfl, rfl, hdead⟩⟩

theorem prove_ok {len long short due delay : Int} {L : List (Int × Int)} {C : List (Int × Int × Int)} {Z : List Int} (hf : faultM len long short due delay L C = 0) :
    proveM len long short due delay L C Z = (staffsM C.length (takesOf len long short L).length Z && (List.range Z.length).all fun k => rotaOk due delay C (takesOf len long short L) (Z.map Int.toNat) k) := by
  obtain ⟨h1, h2⟩ := fault_ok hf
  obtain ⟨h3, h4⟩ := sitErr_zero h1
  obtain ⟨-, hA, -, -⟩ := takes_all h3
  obtain ⟨o1, -⟩ := offOk_parts h2
  unfold proveM
  rw [decide_eq_true hf, Bool.true_and]
  cases hst : staffsM C.length (takesOf len long short L).length Z
  · rfl
  · have hs := staffs_at hst
    rw [Bool.true_and, Bool.true_and, right_rota hA (by rw [List.length_map]; exact hs.1) (fun j hj => by
      have := toNat_lt hst j (by rw [List.length_map] at hj; omega)
      omega), List.length_map]

end Go.Proofs.Ytgapbaelifcifaa
