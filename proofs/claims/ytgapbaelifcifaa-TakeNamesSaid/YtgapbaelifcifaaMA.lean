/- Contracts of Takes, serve. The takes of a sitting, in numbers: where they lie, and how long they are. -/
import Derived.Test.YtgapbaelifcifaaV
import Derived.Test.YtgapbaelifcifaaBA
import Derived.Deep.RegionHeld
namespace Go.Proofs.Ytgapbaelifcifaa
open Go.RowKit

/-- How cut ends: one of three ways. -/
theorem cutPost_cases {len long short : Int} {L : List (Int × Int)} {w w' : World} {e : Ending} (h : CutPost len long short L w e w') :
    (sitOk len long short L = false ∧ Below w.heap.size w w' ∧ e = .returned (.tuple #[.slice none 0 0, .int .i64 1])) ∨
    (sitOk len long short L = true ∧ 40 < (takesOf len long short L).length ∧ Below w.heap.size w w' ∧ e = .returned (.tuple #[.slice none 0 0, .int .i64 3])) ∨
    ∃ a cap n, (takesOf len long short L).length = n ∧ sitOk len long short L = true ∧ n ≤ 40 ∧ Below w.heap.size w w' ∧ e = .returned (.tuple #[.slice a n cap, .int .i64 0]) ∧ Spans w' a (takesOf len long short L) ∧ ∀ b off, a = some ⟨b, off, none⟩ → w.heap.size ≤ b := by
  obtain ⟨hb, h⟩ := h
  split at h
  · next hs => exact .inl ⟨hs, hb, h⟩
  · next hs =>
    split at h
    · next h4 => exact .inr (.inl ⟨by simpa using hs, h4, hb, h⟩)
    · next h4 =>
      obtain ⟨a, cap, he, hS, hf⟩ := h
      exact .inr (.inr ⟨a, cap, _, rfl, by simpa using hs, by omega, hb, he, hS, hf⟩)

set_option maxHeartbeats 400000 in
theorem takes_any (L : List (Int × Int)) (len long short : Int) (m cap : Nat) (a : Option Addr) (w : World)
    (hL : L.length = m) (hm : m ≤ maxLen) (hS : Spans w a L) :
    Calls Try.prog 21 #[.agg #[.int .i64 len, .slice a m cap, .int .i64 long, .int .i64 short]] w (CutPost len long short L w) := by
  have HL := hid hL
  clear hL
  go_enter Try.func21, Try.ntmps21
  go_wp2_with fail
  refine (cut_any L len long short m cap a _ HL.out hm (hS.grown ((Below.refl _ _).alloc (Nat.le_refl _) _))).mono ?_
  intro e w' h
  rcases cutPost_cases h with ⟨h1, hb, rfl⟩ | ⟨h1, h2, hb, rfl⟩ | ⟨a', cap', n, hn, h1, h2, hb, rfl, hS', hf'⟩
  · have H1 := hid h1
    clear h1 h
    go_wp2
    exact bodyPost_ret (v := .tuple #[.slice none 0 0, .int .i64 1]) (by simp [results, Try.f21, go_sem]) rfl ⟨((Below.refl _ _).alloc (Nat.le_refl _) _).trans (hb.mono (by simp)), by rw [if_pos H1.out]⟩
  · have H1 := hid h1
    have H2 := hid h2
    clear h1 h2 h
    go_wp2
    exact bodyPost_ret (v := .tuple #[.slice none 0 0, .int .i64 3]) (by simp [results, Try.f21, go_sem]) rfl ⟨((Below.refl _ _).alloc (Nat.le_refl _) _).trans (hb.mono (by simp)), by rw [H1.out, if_neg (by simp), if_pos H2.out]⟩
  · have H1 := hid h1
    have H2 := hid h2
    have HN := hid hn
    clear h1 h2 h hn
    go_wp2
    exact bodyPost_ret (v := .tuple #[.slice a' n cap', .int .i64 0]) (by simp [results, Try.f21, go_sem]) rfl ⟨((Below.refl _ _).alloc (Nat.le_refl _) _).trans (hb.mono (by simp)), by rw [H1.out, if_neg (by simp), HN.out, if_neg (by have := H2.out; omega)]; exact ⟨a', cap', rfl, hS', fun b off eb => by have := hf' b off eb; simp at this; omega⟩⟩

/-- The service of nothing. -/
def svZero : Value := .agg #[.int .i64 0, .slice none 0 0, .int .i64 0, .int .i64 0, .slice none 0 0, .int .i64 0, .int .i64 0, .slice none 0 0]

def ServePost (len long short due delay : Int) (L : List (Int × Int)) (C : List (Int × Int × Int)) (pa ca : Option Addr) (pn pc cn cc : Nat) (w : World) (e : Ending) (w' : World) : Prop :=
  Below w.heap.size w w' ∧ if sitOk len long short L = false then e = .returned (.tuple #[svZero, .int .i64 1])
    else if 40 < (takesOf len long short L).length then e = .returned (.tuple #[svZero, .int .i64 3])
    else if offOk due delay C = false then e = .returned (.tuple #[svZero, .int .i64 1])
    else ∃ a cap, e = .returned (.tuple #[.agg #[.int .i64 len, .slice pa pn pc, .int .i64 long, .int .i64 short, .slice ca cn cc, .int .i64 due, .int .i64 delay, .slice a (takesOf len long short L).length cap], .int .i64 0]) ∧ Spans w' a (takesOf len long short L)

set_option maxHeartbeats 1000000 in
theorem serve_any (L : List (Int × Int)) (len long short due delay : Int) (C : List (Int × Int × Int)) (pn pc cn cc : Nat) (pa ca : Option Addr) (w : World)
    (hL : L.length = pn) (hm : pn ≤ maxLen) (hS : Spans w pa L) (hC : C.length = cn) (hcn : cn ≤ maxLen) (hCr : Crew w ca C) :
    Calls Try.prog 58 #[.agg #[.int .i64 len, .slice pa pn pc, .int .i64 long, .int .i64 short], .agg #[.slice ca cn cc, .int .i64 due, .int .i64 delay]] w (ServePost len long short due delay L C pa ca pn pc cn cc w) := by
  have HL := hid hL
  have HC := hid hC
  clear hL hC
  go_enter Try.func58, Try.ntmps58
  go_wp2_with fail
  obtain ⟨W0, hW0⟩ : ∃ W0, W0 = ((w.alloc (.cells #[.int .i64 len, .slice pa pn pc, .int .i64 long, .int .i64 short] 34)).alloc (.cells #[.slice ca cn cc, .int .i64 due, .int .i64 delay] 39)).alloc (.cells #[.int .i64 0, .slice none 0 0, .int .i64 0, .int .i64 0, .slice none 0 0, .int .i64 0, .int .i64 0, .slice none 0 0] 106) := ⟨_, rfl⟩
  have hB0 : Below w.heap.size w W0 := by rw [hW0]; exact (((Below.refl _ w).alloc (Nat.le_refl _) _).alloc (by simp) _).alloc (by simp; omega) _
  rw [← hW0]
  have s3 : W0.heap.size = w.heap.size + 3 := by rw [hW0]; simp
  have c0 : W0.cell? ⟨w.heap.size + 1 + 1, 0, none⟩ = some (.int .i64 0) := by rw [hW0]; simp [go_sem]
  have f0 : W0.frozen? ⟨w.heap.size + 1 + 1, 0, none⟩ = false := by rw [hW0]; simp [go_sem]
  have c1 : W0.cell? ⟨w.heap.size + 1 + 1, 1, none⟩ = some (.slice none 0 0) := by rw [hW0]; simp [go_sem]
  have f1 : W0.frozen? ⟨w.heap.size + 1 + 1, 1, none⟩ = false := by rw [hW0]; simp [go_sem]
  have c2 : W0.cell? ⟨w.heap.size + 1 + 1, 2, none⟩ = some (.int .i64 0) := by rw [hW0]; simp [go_sem]
  have f2 : W0.frozen? ⟨w.heap.size + 1 + 1, 2, none⟩ = false := by rw [hW0]; simp [go_sem]
  have c3 : W0.cell? ⟨w.heap.size + 1 + 1, 3, none⟩ = some (.int .i64 0) := by rw [hW0]; simp [go_sem]
  have f3 : W0.frozen? ⟨w.heap.size + 1 + 1, 3, none⟩ = false := by rw [hW0]; simp [go_sem]
  have c4 : W0.cell? ⟨w.heap.size + 1 + 1, 4, none⟩ = some (.slice none 0 0) := by rw [hW0]; simp [go_sem]
  have f4 : W0.frozen? ⟨w.heap.size + 1 + 1, 4, none⟩ = false := by rw [hW0]; simp [go_sem]
  have c5 : W0.cell? ⟨w.heap.size + 1 + 1, 5, none⟩ = some (.int .i64 0) := by rw [hW0]; simp [go_sem]
  have f5 : W0.frozen? ⟨w.heap.size + 1 + 1, 5, none⟩ = false := by rw [hW0]; simp [go_sem]
  have c6 : W0.cell? ⟨w.heap.size + 1 + 1, 6, none⟩ = some (.int .i64 0) := by rw [hW0]; simp [go_sem]
  have f6 : W0.frozen? ⟨w.heap.size + 1 + 1, 6, none⟩ = false := by rw [hW0]; simp [go_sem]
  have c7 : W0.cell? ⟨w.heap.size + 1 + 1, 7, none⟩ = some (.slice none 0 0) := by rw [hW0]; simp [go_sem]
  have f7 : W0.frozen? ⟨w.heap.size + 1 + 1, 7, none⟩ = false := by rw [hW0]; simp [go_sem]
  have p0 : W0.cell? ⟨w.heap.size, 0, none⟩ = some (.int .i64 len) := by rw [hW0]; simp [go_sem]
  have p1 : W0.cell? ⟨w.heap.size, 1, none⟩ = some (.slice pa pn pc) := by rw [hW0]; simp [go_sem]
  have p2 : W0.cell? ⟨w.heap.size, 2, none⟩ = some (.int .i64 long) := by rw [hW0]; simp [go_sem]
  have p3 : W0.cell? ⟨w.heap.size, 3, none⟩ = some (.int .i64 short) := by rw [hW0]; simp [go_sem]
  have q0 : W0.cell? ⟨w.heap.size + 1, 0, none⟩ = some (.slice ca cn cc) := by rw [hW0]; simp [go_sem]
  have q1 : W0.cell? ⟨w.heap.size + 1, 1, none⟩ = some (.int .i64 due) := by rw [hW0]; simp [go_sem]
  have q2 : W0.cell? ⟨w.heap.size + 1, 2, none⟩ = some (.int .i64 delay) := by rw [hW0]; simp [go_sem]
  clear hW0
  refine (cut_any L len long short pn pc pa _ HL.out hm (hS.grown hB0)).mono ?_
  intro e w' h
  have hBw : Below W0.heap.size W0 w' := h.1
  replace c0 := cell_grown hBw c0
  replace f0 := (hBw.frozen (p := ⟨w.heap.size + 1 + 1, 0, none⟩) (by rw [s3]; simp)).trans f0
  replace c1 := cell_grown hBw c1
  replace f1 := (hBw.frozen (p := ⟨w.heap.size + 1 + 1, 1, none⟩) (by rw [s3]; simp)).trans f1
  replace c2 := cell_grown hBw c2
  replace f2 := (hBw.frozen (p := ⟨w.heap.size + 1 + 1, 2, none⟩) (by rw [s3]; simp)).trans f2
  replace c3 := cell_grown hBw c3
  replace f3 := (hBw.frozen (p := ⟨w.heap.size + 1 + 1, 3, none⟩) (by rw [s3]; simp)).trans f3
  replace c4 := cell_grown hBw c4
  replace f4 := (hBw.frozen (p := ⟨w.heap.size + 1 + 1, 4, none⟩) (by rw [s3]; simp)).trans f4
  replace c5 := cell_grown hBw c5
  replace f5 := (hBw.frozen (p := ⟨w.heap.size + 1 + 1, 5, none⟩) (by rw [s3]; simp)).trans f5
  replace c6 := cell_grown hBw c6
  replace f6 := (hBw.frozen (p := ⟨w.heap.size + 1 + 1, 6, none⟩) (by rw [s3]; simp)).trans f6
  replace c7 := cell_grown hBw c7
  replace f7 := (hBw.frozen (p := ⟨w.heap.size + 1 + 1, 7, none⟩) (by rw [s3]; simp)).trans f7
  replace p0 := cell_grown hBw p0
  replace p1 := cell_grown hBw p1
  replace p2 := cell_grown hBw p2
  replace p3 := cell_grown hBw p3
  replace q0 := cell_grown hBw q0
  replace q1 := cell_grown hBw q1
  replace q2 := cell_grown hBw q2
  rcases cutPost_cases h with ⟨h1, hb, rfl⟩ | ⟨h1, h2, hb, rfl⟩ | ⟨a', cap', n, hn, h1, h2, hb, rfl, hS', hf'⟩
  · have H1 := hid h1
    clear h1 h
    go_wp2
    have hB1 := hB0.trans (hb.mono (by omega))
    refine bodyPost_ret (v := .tuple #[svZero, .int .i64 1]) (by simp [results, Try.f58, go_sem, svZero, c0, c1, c2, c3, c4, c5, c6, c7]) rfl ⟨((((((((hB1).setCell (p := ⟨w.heap.size + 1 + 1, 0, none⟩) (by simp; omega) _).setCell (p := ⟨w.heap.size + 1 + 1, 1, none⟩) (by simp; omega) _).setCell (p := ⟨w.heap.size + 1 + 1, 2, none⟩) (by simp; omega) _).setCell (p := ⟨w.heap.size + 1 + 1, 3, none⟩) (by simp; omega) _).setCell (p := ⟨w.heap.size + 1 + 1, 4, none⟩) (by simp; omega) _).setCell (p := ⟨w.heap.size + 1 + 1, 5, none⟩) (by simp; omega) _).setCell (p := ⟨w.heap.size + 1 + 1, 6, none⟩) (by simp; omega) _).setCell (p := ⟨w.heap.size + 1 + 1, 7, none⟩) (by simp; omega) _, by rw [if_pos H1.out]⟩
  · have H1 := hid h1
    have H2 := hid h2
    clear h1 h2 h
    go_wp2
    have hB1 := hB0.trans (hb.mono (by omega))
    refine bodyPost_ret (v := .tuple #[svZero, .int .i64 3]) (by simp [results, Try.f58, go_sem, svZero, c0, c1, c2, c3, c4, c5, c6, c7]) rfl ⟨((((((((hB1).setCell (p := ⟨w.heap.size + 1 + 1, 0, none⟩) (by simp; omega) _).setCell (p := ⟨w.heap.size + 1 + 1, 1, none⟩) (by simp; omega) _).setCell (p := ⟨w.heap.size + 1 + 1, 2, none⟩) (by simp; omega) _).setCell (p := ⟨w.heap.size + 1 + 1, 3, none⟩) (by simp; omega) _).setCell (p := ⟨w.heap.size + 1 + 1, 4, none⟩) (by simp; omega) _).setCell (p := ⟨w.heap.size + 1 + 1, 5, none⟩) (by simp; omega) _).setCell (p := ⟨w.heap.size + 1 + 1, 6, none⟩) (by simp; omega) _).setCell (p := ⟨w.heap.size + 1 + 1, 7, none⟩) (by simp; omega) _, by rw [H1.out, if_neg (by simp), if_pos H2.out]⟩
  · have H1 := hid h1
    have H2 := hid h2
    have HN := hid hn
    clear h1 h2 h hn
    have s4 := hb.size
    have HF := hid hf'
    clear hf'
    go_wp2_with fail
    refine (checkOffice_any C due delay cn cc ca _ HC.out hcn (hCr.grown (hB0.trans (hb.mono (by omega))))).mono ?_
    rintro e w2 ⟨rfl, hb2⟩
    have s5 := hb2.size
    have hS2 := hS'.grown hb2
    replace c0 := cell_grown hb2 c0
    replace f0 := (hb2.frozen (p := ⟨w.heap.size + 1 + 1, 0, none⟩) (by simp; omega)).trans f0
    replace c1 := cell_grown hb2 c1
    replace f1 := (hb2.frozen (p := ⟨w.heap.size + 1 + 1, 1, none⟩) (by simp; omega)).trans f1
    replace c2 := cell_grown hb2 c2
    replace f2 := (hb2.frozen (p := ⟨w.heap.size + 1 + 1, 2, none⟩) (by simp; omega)).trans f2
    replace c3 := cell_grown hb2 c3
    replace f3 := (hb2.frozen (p := ⟨w.heap.size + 1 + 1, 3, none⟩) (by simp; omega)).trans f3
    replace c4 := cell_grown hb2 c4
    replace f4 := (hb2.frozen (p := ⟨w.heap.size + 1 + 1, 4, none⟩) (by simp; omega)).trans f4
    replace c5 := cell_grown hb2 c5
    replace f5 := (hb2.frozen (p := ⟨w.heap.size + 1 + 1, 5, none⟩) (by simp; omega)).trans f5
    replace c6 := cell_grown hb2 c6
    replace f6 := (hb2.frozen (p := ⟨w.heap.size + 1 + 1, 6, none⟩) (by simp; omega)).trans f6
    replace c7 := cell_grown hb2 c7
    replace f7 := (hb2.frozen (p := ⟨w.heap.size + 1 + 1, 7, none⟩) (by simp; omega)).trans f7
    replace p0 := cell_grown hb2 p0
    replace p1 := cell_grown hb2 p1
    replace p2 := cell_grown hb2 p2
    replace p3 := cell_grown hb2 p3
    replace q0 := cell_grown hb2 q0
    replace q1 := cell_grown hb2 q1
    replace q2 := cell_grown hb2 q2
    have hB1 := (hB0.trans (hb.mono (by omega))).trans (hb2.mono (by omega))
    clear hb hb2 hBw hCr hS'
    by_cases hof : offOk due delay C = true
    · have HO := hid hof
      rw [if_pos hof]
      clear hof
      go_wp2
      refine bodyPost_ret (v := .tuple #[.agg #[.int .i64 len, .slice pa pn pc, .int .i64 long, .int .i64 short, .slice ca cn cc, .int .i64 due, .int .i64 delay, .slice a' n cap'], .int .i64 0]) (by simp [results, Try.f58, go_sem, c0, c1, c2, c3, c4, c5, c6, c7]) rfl ⟨((((((((hB1).setCell (p := ⟨w.heap.size + 1 + 1, 0, none⟩) (by simp; omega) _).setCell (p := ⟨w.heap.size + 1 + 1, 1, none⟩) (by simp; omega) _).setCell (p := ⟨w.heap.size + 1 + 1, 2, none⟩) (by simp; omega) _).setCell (p := ⟨w.heap.size + 1 + 1, 3, none⟩) (by simp; omega) _).setCell (p := ⟨w.heap.size + 1 + 1, 4, none⟩) (by simp; omega) _).setCell (p := ⟨w.heap.size + 1 + 1, 5, none⟩) (by simp; omega) _).setCell (p := ⟨w.heap.size + 1 + 1, 6, none⟩) (by simp; omega) _).setCell (p := ⟨w.heap.size + 1 + 1, 7, none⟩) (by simp; omega) _, ?_⟩
      rw [H1.out, if_neg (by simp), HN.out, if_neg (by have := H2.out; omega), HO.out, if_neg (by simp)]
      refine ⟨a', cap', rfl, ?_⟩
      intro i hi
      obtain ⟨b, off, eb, e1, e2⟩ := hS2 i hi
      have := HF.out b off eb
      refine ⟨b, off, eb, ?_, ?_⟩
      · repeat (refine (World.cell?_setCell_far _ _ _ _ (by simp; omega)).trans ?_)
        exact e1
      · repeat (refine (World.cell?_setCell_far _ _ _ _ (by simp; omega)).trans ?_)
        exact e2
    · have HO : Hid (offOk due delay C = false) := hid (by simpa using hof)
      rw [if_neg hof]
      clear hof
      go_wp2
      refine bodyPost_ret (v := .tuple #[svZero, .int .i64 1]) (by simp [results, Try.f58, go_sem, svZero, c0, c1, c2, c3, c4, c5, c6, c7]) rfl ⟨((((((((hB1).setCell (p := ⟨w.heap.size + 1 + 1, 0, none⟩) (by simp; omega) _).setCell (p := ⟨w.heap.size + 1 + 1, 1, none⟩) (by simp; omega) _).setCell (p := ⟨w.heap.size + 1 + 1, 2, none⟩) (by simp; omega) _).setCell (p := ⟨w.heap.size + 1 + 1, 3, none⟩) (by simp; omega) _).setCell (p := ⟨w.heap.size + 1 + 1, 4, none⟩) (by simp; omega) _).setCell (p := ⟨w.heap.size + 1 + 1, 5, none⟩) (by simp; omega) _).setCell (p := ⟨w.heap.size + 1 + 1, 6, none⟩) (by simp; omega) _).setCell (p := ⟨w.heap.size + 1 + 1, 7, none⟩) (by simp; omega) _, ?_⟩
      rw [H1.out, if_neg (by simp), HN.out, if_neg (by have := H2.out; omega), HO.out, if_pos rfl]

end Go.Proofs.Ytgapbaelifcifaa

namespace Go.Proofs.Ytgapbaelifcifaa

theorem strs_mem {len : Int} : ∀ (L : List (Int × Int)) (f : Int), ∀ x ∈ strs len f L, x.1 < x.2 ∧ (x.1 = f ∨ ∃ p ∈ L, x.1 = p.2) ∧ (x.2 = len ∨ ∃ p ∈ L, x.2 = p.1) := by
  intro L
  induction L with
  | nil =>
    intro f x hx
    rw [strs] at hx
    split at hx
    · simp only [List.mem_singleton] at hx
      subst hx
      exact ⟨by assumption, .inl rfl, .inl rfl⟩
    · simp at hx
  | cons p ps ih =>
    intro f x hx
    rw [strs] at hx
    have hrest : x ∈ strs len p.2 ps → x.1 < x.2 ∧ (x.1 = f ∨ ∃ q ∈ p :: ps, x.1 = q.2) ∧ (x.2 = len ∨ ∃ q ∈ p :: ps, x.2 = q.1) := by
      intro h
      obtain ⟨h1, h2, h3⟩ := ih p.2 x h
      refine ⟨h1, .inr ?_, ?_⟩
      · rcases h2 with h2 | ⟨q, hq, h2⟩
        · exact ⟨p, List.mem_cons_self, h2⟩
        · exact ⟨q, List.mem_cons_of_mem _ hq, h2⟩
      · rcases h3 with h3 | ⟨q, hq, h3⟩
        · exact .inl h3
        · exact .inr ⟨q, List.mem_cons_of_mem _ hq, h3⟩
    split at hx
    · rcases List.mem_cons.1 hx with rfl | hx
      · exact ⟨by assumption, .inl rfl, .inr ⟨p, List.mem_cons_self, rfl⟩⟩
      · exact hrest hx
    · exact hrest hx

theorem cutS_mem {long short : Int} (hs : 1 ≤ short) (hl : short ≤ long) : ∀ (k : Nat) (f t : Int), ∀ x ∈ cutS long short k f t, f ≤ x.1 ∧ x.1 < x.2 ∧ x.2 ≤ t ∧ x.2 - x.1 < long + short ∧ (x.2 - x.1 < short → x.1 = f ∧ x.2 = t) := by
  intro k
  induction k with
  | zero => intro f t x hx; simp [cutS] at hx
  | succ k ih =>
    intro f t x hx
    rw [cutS] at hx
    split at hx
    · next hf =>
      by_cases hc : t - (f + long) < short
      · simp only [if_pos hc] at hx
        rcases List.mem_cons.1 hx with rfl | hx
        · exact ⟨by simp, by simpa using hf, by simp, by simp only; omega, fun _ => ⟨rfl, rfl⟩⟩
        · rw [cutS_done _ (by omega)] at hx
          simp at hx
      · simp only [if_neg hc] at hx
        rcases List.mem_cons.1 hx with rfl | hx
        · exact ⟨by simp, by simp only; omega, by simp only; omega, by simp only; omega, fun h => by simp only at h; omega⟩
        · obtain ⟨h1, h2, h3, h4, h5⟩ := ih (f + long) t x hx
          exact ⟨by omega, h2, h3, h4, fun h => by have := h5 h; omega⟩
    · simp at hx

theorem pausesOk_mem {len : Int} {L : List (Int × Int)} (h : pausesOk len L = true) : ∀ p ∈ L, 0 ≤ p.1 ∧ p.1 < p.2 ∧ p.2 ≤ len := by
  intro p hp
  obtain ⟨i, hi, rfl⟩ := List.mem_iff_getElem.1 hp
  unfold pausesOk at h
  rw [List.all_eq_true] at h
  have := h i (by simpa using hi)
  cases i with
  | zero => simpa [pauseOk, okSpan, List.getElem?_eq_getElem hi] using this
  | succ i =>
    simp only [pauseOk, okSpan, Bool.and_eq_true, decide_eq_true_eq, List.getD_eq_getElem?_getD, List.getElem?_eq_getElem hi, Option.getD_some] at this
    exact this.2

theorem sitOk_parts {len long short : Int} {L : List (Int × Int)} (h : sitOk len long short L = true) : (1 ≤ len ∧ len ≤ 36000) ∧ (1 ≤ long ∧ long ≤ 1200) ∧ (1 ≤ short ∧ short ≤ long) ∧ pausesOk len L = true := by
  simpa [sitOk, inB] using h

/-- Each take lies in the sitting; it is not too long; if it is short, it is a whole stretch. -/
theorem takesOf_mem {len long short : Int} {L : List (Int × Int)} (h : sitOk len long short L = true) : ∀ x ∈ takesOf len long short L,
    (0 ≤ x.1 ∧ x.1 < x.2 ∧ x.2 ≤ len) ∧ x.2 - x.1 < long + short ∧ (x.2 - x.1 < short → (x.1 = 0 ∨ ∃ p ∈ L, x.1 = p.2) ∧ (x.2 = len ∨ ∃ p ∈ L, x.2 = p.1)) := by
  intro x hx
  obtain ⟨h1, h2, h3, h4⟩ := sitOk_parts h
  unfold takesOf at hx
  obtain ⟨y, hy, hx⟩ := List.mem_flatMap.1 hx
  obtain ⟨b1, b2⟩ := strs_bd L 0 (by omega) (pausesOk_bd h4) y hy
  obtain ⟨c1, c2, c3⟩ := strs_mem L 0 y hy
  obtain ⟨d1, d2, d3, d4, d5⟩ := cutS_mem h3.1 h3.2 _ _ _ x hx
  refine ⟨⟨by omega, d2, by omega⟩, d4, fun hs => ?_⟩
  obtain ⟨e1, e2⟩ := d5 hs
  rw [e1, e2]
  exact ⟨c2, c3⟩

theorem takesOf_bd {len long short : Int} {L : List (Int × Int)} (h : sitOk len long short L = true) {k : Nat} (hk : k < (takesOf len long short L).length) :
    0 ≤ ((takesOf len long short L).getD k (0, 0)).1 ∧ ((takesOf len long short L).getD k (0, 0)).1 < ((takesOf len long short L).getD k (0, 0)).2 ∧ ((takesOf len long short L).getD k (0, 0)).2 ≤ 36000 := by
  have hm : (takesOf len long short L).getD k (0, 0) ∈ takesOf len long short L := by
    rw [List.getD_eq_getElem?_getD, List.getElem?_eq_getElem hk, Option.getD_some]
    exact List.getElem_mem hk
  have := (takesOf_mem h _ hm).1
  have := (sitOk_parts h).1
  omega

end Go.Proofs.Ytgapbaelifcifaa
