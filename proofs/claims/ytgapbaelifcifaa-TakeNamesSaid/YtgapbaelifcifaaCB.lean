/- Contract of Rota. -/
import Derived.Test.YtgapbaelifcifaaAG
import Derived.Test.YtgapbaelifcifaaMA
namespace Go.Proofs.Ytgapbaelifcifaa
open Go.RowKit

/-- How the search for a rota goes, of numbers alone. -/
def howOf (due delay : Int) (C : List (Int × Int × Int)) (T : List (Int × Int)) : How where
  may := fun k r b => b && decide (doneM T k (C.getD r (0, 0, 0)).2.1 delay ≤ (T.getD k (0, 0)).2 + due)
  ag := fun k r => nextFrom T (doneM T k (C.getD r (0, 0, 0)).2.1 delay + (C.getD r (0, 0, 0)).2.2) (T.length - (k + 1)) (k + 1)
  cn := C.length
  tn := T.length

theorem nextFrom_le (T : List (Int × Int)) (free : Int) : ∀ (f j : Nat), nextFrom T free f j ≤ j + f := by
  intro f
  induction f with
  | zero => intro j; simp [nextFrom]
  | succ f ih =>
    intro j
    rw [nextFrom]
    split
    · have := ih (j + 1); omega
    · omega

/-- What serve says is wrong, if anything is. -/
def serveErr (len long short due delay : Int) (L : List (Int × Int)) (C : List (Int × Int × Int)) : Int :=
  if sitOk len long short L = false then 1 else if 40 < (takesOf len long short L).length then 3 else if offOk due delay C = false then 1 else 0

theorem servePost_cases {len long short due delay : Int} {L : List (Int × Int)} {C : List (Int × Int × Int)} {pa ca : Option Addr} {pn pc cn cc : Nat} {w w' : World} {e : Ending} (h : ServePost len long short due delay L C pa ca pn pc cn cc w e w') :
    (∃ x : Int, (x = 1 ∨ x = 3) ∧ Below w.heap.size w w' ∧ e = .returned (.tuple #[svZero, .int .i64 x]) ∧ serveErr len long short due delay L C = x) ∨
    ∃ a cap n, (takesOf len long short L).length = n ∧ sitOk len long short L = true ∧ n ≤ 40 ∧ offOk due delay C = true ∧ Below w.heap.size w w' ∧ e = .returned (.tuple #[.agg #[.int .i64 len, .slice pa pn pc, .int .i64 long, .int .i64 short, .slice ca cn cc, .int .i64 due, .int .i64 delay, .slice a n cap], .int .i64 0]) ∧ Spans w' a (takesOf len long short L) := by
  obtain ⟨hb, h⟩ := h
  split at h
  · next hs => exact .inl ⟨1, .inl rfl, hb, h, by rw [serveErr, if_pos hs]⟩
  · next hs =>
    split at h
    · next h4 => exact .inl ⟨3, .inr rfl, hb, h, by rw [serveErr, if_neg hs, if_pos h4]⟩
    · next h4 =>
      split at h
      · next ho => exact .inl ⟨1, .inl rfl, hb, h, by rw [serveErr, if_neg hs, if_neg h4, if_pos ho]⟩
      · next ho =>
        obtain ⟨a, cap, he, hS⟩ := h
        exact .inr ⟨a, cap, _, rfl, by simpa using hs, by omega, by simpa using ho, hb, he, hS⟩

theorem offOk_parts {due delay : Int} {C : List (Int × Int × Int)} (h : offOk due delay C = true) : (1 ≤ C.length ∧ C.length ≤ 5) ∧ (0 ≤ due ∧ due ≤ 36000) ∧ (0 ≤ delay ∧ delay ≤ 36000) ∧ crewOk C = true := by
  have : (1 ≤ (C.length : Int) ∧ (C.length : Int) ≤ 5) ∧ (0 ≤ due ∧ due ≤ 36000) ∧ (0 ≤ delay ∧ delay ≤ 36000) ∧ crewOk C = true := by simpa [offOk, inB] using h
  refine ⟨?_, this.2⟩
  omega

theorem svOk_of {len long short due delay : Int} {L : List (Int × Int)} {C : List (Int × Int × Int)} {pa ca ta : Option Addr} {pn pc cn cc tn tc : Nat} {w : World}
    (h1 : sitOk len long short L = true) (hn : (takesOf len long short L).length = tn) (h2 : tn ≤ 40) (h3 : offOk due delay C = true) (hC : C.length = cn) (hCr : Crew w ca C) (hS : Spans w ta (takesOf len long short L)) :
    SvOk ⟨len, long, short, due, delay, pa, ca, ta, pn, pc, cn, cc, tn, tc⟩ C (takesOf len long short L) w := by
  obtain ⟨o1, o2, o3, o4⟩ := offOk_parts h3
  refine { cn := hC, c5 := by rw [← hC]; exact o1.2, tn := hn, t40 := h2, crew := hCr, takes := hS, bC := ?_, bT := ?_, due := o2, delay := o3 }
  · intro i hi
    have := crewOk_at o4 (i := i) (by rw [hC]; exact hi)
    generalize C.getD i (0, 0, 0) = x at this ⊢
    have : (0 ≤ x.1 ∧ x.1 ≤ x.2.1) ∧ x.2.1 ≤ 20 ∧ 0 ≤ x.2.2 ∧ x.2.2 ≤ 36000 := by simpa [repOk, inB] using this
    omega
  · intro k hk
    exact takesOf_bd h1 (by rw [hn]; exact hk)

/-- What Rota returns. -/
def RotaPost (len long short due delay : Int) (L : List (Int × Int)) (C : List (Int × Int × Int)) (w : World) (e : Ending) (w' : World) : Prop :=
  Below w.heap.size w w' ∧
  (serveErr len long short due delay L C ≠ 0 ∧ e = .returned (.tuple #[.slice none 0 0, .int .i64 (serveErr len long short due delay L C)]) ∨
   serveErr len long short due delay L C = 0 ∧ (takesOf len long short L).length ≤ 40 ∧
    ((∃ (a : Option Addr) (cap : Nat) (R : List Nat), e = .returned (.tuple #[.slice a R.length cap, .int .i64 0]) ∧ Ints w' a (R.map fun r : Nat => (r : Int)) ∧ (howOf due delay C (takesOf len long short L)).best R 0 [0, 0, 0, 0, 0]) ∨
     e = .returned (.tuple #[.slice none 0 0, .int .i64 9]) ∧ ∃ rc, rc < (takesOf len long short L).length ∧ (howOf due delay C (takesOf len long short L)).dead rc 0 [0, 0, 0, 0, 0]))

set_option maxRecDepth 100000 in
set_option maxHeartbeats 1000000 in
theorem rota_any (L : List (Int × Int)) (len long short due delay : Int) (C : List (Int × Int × Int)) (pn pc cn cc : Nat) (pa ca : Option Addr) (w : World)
    (hL : L.length = pn) (hm : pn ≤ maxLen) (hS : Spans w pa L) (hC : C.length = cn) (hcn : cn ≤ maxLen) (hCr : Crew w ca C) :
    Calls Try.prog 29 #[.agg #[.int .i64 len, .slice pa pn pc, .int .i64 long, .int .i64 short], .agg #[.slice ca cn cc, .int .i64 due, .int .i64 delay]] w (RotaPost len long short due delay L C w) := by
  have HL := hid hL
  have HC := hid hC
  clear hL hC
  go_enter Try.func29, Try.ntmps29
  go_wp2_with fail
  obtain ⟨W0, hW0⟩ : ∃ W0, W0 = (w.alloc (.cells #[.int .i64 len, .slice pa pn pc, .int .i64 long, .int .i64 short] 34)).alloc (.cells #[.slice ca cn cc, .int .i64 due, .int .i64 delay] 39) := ⟨_, rfl⟩
  have hB0 : Below w.heap.size w W0 := by rw [hW0]; exact ((Below.refl _ w).alloc (Nat.le_refl _) _).alloc (by simp) _
  rw [← hW0]
  have s3 : W0.heap.size = w.heap.size + 2 := by rw [hW0]; simp
  clear hW0
  refine (serve_any L len long short due delay C pn pc cn cc pa ca _ HL.out hm (hS.grown hB0) HC.out hcn (hCr.grown hB0)).mono ?_
  intro e w' h
  rcases servePost_cases h with ⟨x, hx, hb, rfl, hwhy⟩ | ⟨a, cap, n, hn, h1, h2, h3, hb, rfl, hST⟩
  · have HW := hid hwhy
    clear h hwhy
    have hB1 := hB0.trans (hb.mono (by omega))
    unfold svZero
    rcases hx with rfl | rfl
    all_goals
      go_wp2
      refine bodyPost_ret (v := .tuple #[.slice none 0 0, .int .i64 (serveErr len long short due delay L C)]) (by rw [HW.out]; simp [results, Try.f29, go_sem]) rfl ⟨hB1.alloc hB1.size _, .inl ⟨by rw [HW.out]; omega, rfl⟩⟩
  · have hB1 := hB0.trans (hb.mono (by omega))
    have sOk := svOk_of (pa := pa) (pn := pn) (pc := pc) (cc := cc) (tc := cap) h1 hn h2 h3 HC.out (hCr.grown hB1) hST
    have HE : Hid (serveErr len long short due delay L C = 0) := hid (by rw [serveErr, if_neg (by simp [h1]), if_neg (by omega), if_neg (by simp [h3])])
    have HN := hid hn
    have H2 := hid h2
    have sz1 := hb.size
    clear h h1 h3 h2 hn hCr hST hS hb hB0
    have szw : w.heap.size ≤ w'.heap.size := by omega
    go_wp2_with fail
    obtain ⟨W1, hW1⟩ : ∃ W1, W1 = w'.alloc (.cells #[.int .i64 len, .slice pa pn pc, .int .i64 long, .int .i64 short, .slice ca cn cc, .int .i64 due, .int .i64 delay, .slice a n cap] 106) := ⟨_, rfl⟩
    have hB2 : Below w.heap.size w W1 := by rw [hW1]; exact hB1.alloc szw _
    have hB3 : Below w'.heap.size w' W1 := by rw [hW1]; exact (Below.refl _ _).alloc (Nat.le_refl _) _
    have c7 : W1.cell? ⟨w'.heap.size, 7, none⟩ = some (.slice a n cap) := by rw [hW1]; simp [go_sem]
    have z1 : W1.heap.size = w'.heap.size + 1 := by rw [hW1]; simp
    rw [← hW1]
    have sOk1 := sOk.grown hB3
    clear hW1 sOk hB1 hB3
    have hcnC : (howOf due delay C (takesOf len long short L)).cn = cn := HC.out
    have htnT : (howOf due delay C (takesOf len long short L)).tn = n := HN.out
    refine (lookM_any ⟨len, long, short, due, delay, pa, ca, a, pn, pc, cn, cc, n, cap⟩ C (takesOf len long short L) (howOf due delay C (takesOf len long short L)) W1 sOk1 hcnC htnT ?_ ?_).mono ?_
    · intro k r hk hr
      refine ⟨rfl, ?_⟩
      have := nextFrom_le (takesOf len long short L) (freeM ⟨len, long, short, due, delay, pa, ca, a, pn, pc, cn, cc, n, cap⟩ C (takesOf len long short L) k r) ((takesOf len long short L).length - (k + 1)) (k + 1)
      have hl : (howOf due delay C (takesOf len long short L)).tn = (takesOf len long short L).length := rfl
      unfold againM
      omega
    · intro W k r h0 h1 h2 h3 h4 hB hk hr
      exact mayHave_any ⟨len, long, short, due, delay, pa, ca, a, pn, pc, cn, cc, n, cap⟩ C (takesOf len long short L) h0 h1 h2 h3 h4 k r W (sOk1.grown hB) (by rw [htnT] at hk; exact hk) (by rw [hcnC] at hr; exact hr)
    · rintro e w2 ⟨ra, rcap, R, rc, rfl, hb2, hI, hrc, hpath, hres⟩
      have g7 := cell_grown hb2 c7
      have HRES := hid hres
      rw [htnT] at hrc
      have HNT := hid htnT
      have h40 := H2.out
      clear hres hpath c7 sOk1 hcnC htnT
      by_cases hlt : rc < n
      · go_wp2
        refine bodyPost_ret (v := .tuple #[.slice none 0 0, .int .i64 9]) (by simp [results, Try.f29, go_sem]) rfl ⟨hB2.trans (hb2.mono (by omega)), .inr ⟨HE.out, by rw [HN.out]; exact h40, .inr ⟨rfl, rc, by rw [HN.out]; exact hlt, ?_⟩⟩⟩
        rcases HRES.out with ⟨_, h⟩ | ⟨_, h⟩
        · rw [HNT.out] at h; omega
        · exact h
      · go_wp2
        refine bodyPost_ret (v := .tuple #[.slice ra R.length rcap, .int .i64 0]) (by simp [results, Try.f29, go_sem]) rfl ⟨hB2.trans (hb2.mono (by omega)), .inr ⟨HE.out, by rw [HN.out]; exact h40, .inl ⟨ra, rcap, R, rfl, hI, ?_⟩⟩⟩
        rcases HRES.out with ⟨h, _⟩ | ⟨h, _⟩
        · exact h
        · rw [HNT.out] at h; omega

end Go.Proofs.Ytgapbaelifcifaa
