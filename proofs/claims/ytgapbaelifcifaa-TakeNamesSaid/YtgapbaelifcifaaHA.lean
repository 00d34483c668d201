/- Contract of Fails. A sitting that ends with one of its takes: its takes, what the search says of them; contract of the law's cut. -/
import Derived.Test.YtgapbaelifcifaaGB
namespace Go.Proofs.Ytgapbaelifcifaa
open Go.RowKit

/-- What Fails returns. -/
def FailsPost (len long short due delay : Int) (L : List (Int × Int)) (C : List (Int × Int × Int)) (w : World) (e : Ending) (w' : World) : Prop :=
  Below w.heap.size w w' ∧
  (serveErr len long short due delay L C ≠ 0 ∧ e = .returned (.tuple #[.int .i64 0, .int .i64 (serveErr len long short due delay L C)]) ∨
   serveErr len long short due delay L C = 0 ∧ (takesOf len long short L).length ≤ 40 ∧
    ((e = .returned (.tuple #[.int .i64 0, .int .i64 7]) ∧ ∃ R, (howOf due delay C (takesOf len long short L)).best R 0 [0, 0, 0, 0, 0]) ∨
     ∃ rc : Nat, e = .returned (.tuple #[.int .i64 (rc : Int), .int .i64 0]) ∧ rc < (takesOf len long short L).length ∧ (∃ rs, rs.length = rc ∧ (howOf due delay C (takesOf len long short L)).path rs 0 [0, 0, 0, 0, 0]) ∧ (howOf due delay C (takesOf len long short L)).dead rc 0 [0, 0, 0, 0, 0]))

set_option maxRecDepth 100000 in
set_option maxHeartbeats 1000000 in
theorem fails_any (L : List (Int × Int)) (len long short due delay : Int) (C : List (Int × Int × Int)) (pn pc cn cc : Nat) (pa ca : Option Addr) (w : World)
    (hL : L.length = pn) (hm : pn ≤ maxLen) (hS : Spans w pa L) (hC : C.length = cn) (hcn : cn ≤ maxLen) (hCr : Crew w ca C) :
    Calls Try.prog 30 #[.agg #[.int .i64 len, .slice pa pn pc, .int .i64 long, .int .i64 short], .agg #[.slice ca cn cc, .int .i64 due, .int .i64 delay]] w (FailsPost len long short due delay L C w) := by
  have HL := hid hL
  have HC := hid hC
  clear hL hC
  go_enter Try.func30, Try.ntmps30
  go_wp2_with fail
  obtain ⟨W0, hW0⟩ : ∃ W0, W0 = (w.alloc (.cells #[.int .i64 len, .slice pa pn pc, .int .i64 long, .int .i64 short] 34)).alloc (.cells #[.slice ca cn cc, .int .i64 due, .int .i64 delay] 39) := ⟨_, rfl⟩
  have hB0 : Below w.heap.size w W0 := by rw [hW0]; exact ((Below.refl _ w).alloc (Nat.le_refl _) _).alloc (by simp) _
  rw [← hW0]
  have s3 : W0.heap.size = w.heap.size + 2 := by rw [hW0]; simp
  clear hW0
  refine (serve_any L len long short due delay C pn pc cn cc pa ca _ HL.out hm (hS.grown hB0) HC.out hcn (hCr.grown hB0)).mono ?_
  intro e w' h
  rcases servePost_cases h with ⟨x, hx, hb, rfl, hwhy⟩ | ⟨a, cap, n, hn, h1, h2, h3, hb, rfl, hST⟩
  · have HW := hid hwhy
    clear h hwhy
    have hB1 := hB0.trans (hb.mono (by omega))
    unfold svZero
    rcases hx with rfl | rfl
    all_goals
      go_wp2
      refine bodyPost_ret (v := .tuple #[.int .i64 0, .int .i64 (serveErr len long short due delay L C)]) (by rw [HW.out]; simp [results, Try.f30, go_sem]) rfl ⟨hB1.alloc hB1.size _, .inl ⟨by rw [HW.out]; omega, rfl⟩⟩
  · have hB1 := hB0.trans (hb.mono (by omega))
    have sOk := svOk_of (pa := pa) (pn := pn) (pc := pc) (cc := cc) (tc := cap) h1 hn h2 h3 HC.out (hCr.grown hB1) hST
    have HE : Hid (serveErr len long short due delay L C = 0) := hid (by rw [serveErr, if_neg (by simp [h1]), if_neg (by omega), if_neg (by simp [h3])])
    have HN := hid hn
    have H2 := hid h2
    have sz1 := hb.size
    clear h h1 h3 h2 hn hCr hST hS hb hB0
    have szw : w.heap.size ≤ w'.heap.size := by omega
    go_wp2_with fail
    obtain ⟨W1, hW1⟩ : ∃ W1, W1 = w'.alloc (.cells #[.int .i64 len, .slice pa pn pc, .int .i64 long, .int .i64 short, .slice ca cn cc, .int .i64 due, .int .i64 delay, .slice a n cap] 106) := ⟨_, rfl⟩
    have hB2 : Below w.heap.size w W1 := by rw [hW1]; exact hB1.alloc szw _
    have hB3 : Below w'.heap.size w' W1 := by rw [hW1]; exact (Below.refl _ _).alloc (Nat.le_refl _) _
    have c7 : W1.cell? ⟨w'.heap.size, 7, none⟩ = some (.slice a n cap) := by rw [hW1]; simp [go_sem]
    have z1 : W1.heap.size = w'.heap.size + 1 := by rw [hW1]; simp
    rw [← hW1]
    have sOk1 := sOk.grown hB3
    clear hW1 sOk hB1 hB3
    have hcnC : (howOf due delay C (takesOf len long short L)).cn = cn := HC.out
    have htnT : (howOf due delay C (takesOf len long short L)).tn = n := HN.out
    refine (lookM_any ⟨len, long, short, due, delay, pa, ca, a, pn, pc, cn, cc, n, cap⟩ C (takesOf len long short L) (howOf due delay C (takesOf len long short L)) W1 sOk1 hcnC htnT ?_ ?_).mono ?_
    · intro k r hk hr
      refine ⟨rfl, ?_⟩
      have := nextFrom_le (takesOf len long short L) (freeM ⟨len, long, short, due, delay, pa, ca, a, pn, pc, cn, cc, n, cap⟩ C (takesOf len long short L) k r) ((takesOf len long short L).length - (k + 1)) (k + 1)
      have hl : (howOf due delay C (takesOf len long short L)).tn = (takesOf len long short L).length := rfl
      unfold againM
      omega
    · intro W k r h0 h1 h2 h3 h4 hB hk hr
      exact mayHave_any ⟨len, long, short, due, delay, pa, ca, a, pn, pc, cn, cc, n, cap⟩ C (takesOf len long short L) h0 h1 h2 h3 h4 k r W (sOk1.grown hB) (by rw [htnT] at hk; exact hk) (by rw [hcnC] at hr; exact hr)
    · rintro e w2 ⟨ra, rcap, R, rc, rfl, hb2, hI, hrc, hpath, hres⟩
      have g7 := cell_grown hb2 c7
      have HRES := hid hres
      rw [htnT] at hrc
      have HNT := hid htnT
      have h40 := H2.out
      have HP := hid hpath
      clear hres hpath c7 sOk1 hcnC htnT
      by_cases hlt : rc = n
      · subst hlt
        go_wp2
        refine bodyPost_ret (v := .tuple #[.int .i64 0, .int .i64 7]) (by simp [results, Try.f30, go_sem]) rfl ⟨hB2.trans (hb2.mono (by omega)), .inr ⟨HE.out, by rw [HN.out]; exact h40, .inl ⟨rfl, ?_⟩⟩⟩
        rcases HRES.out with ⟨h, _⟩ | ⟨h, _⟩
        · exact ⟨R, h⟩
        · rw [HNT.out] at h; omega
      · go_wp2
        refine bodyPost_ret (v := .tuple #[.int .i64 (rc : Int), .int .i64 0]) (by simp [results, Try.f30, go_sem]) rfl ⟨hB2.trans (hb2.mono (by omega)), .inr ⟨HE.out, by rw [HN.out]; exact h40, .inr ⟨rc, rfl, by rw [HN.out]; omega, HP.out, ?_⟩⟩⟩
        rcases HRES.out with ⟨_, h⟩ | ⟨_, h⟩
        · rw [HNT.out] at h; omega
        · exact h

end Go.Proofs.Ytgapbaelifcifaa

namespace Go.Proofs.Ytgapbaelifcifaa
open Go.RowKit

theorem getD_mem {X : List (Int × Int)} {n : Nat} (h : n < X.length) : X.getD n (0, 0) ∈ X := by
  rw [List.getD_eq_getElem?_getD, List.getElem?_eq_getElem h, Option.getD_some]
  exact List.getElem_mem h

theorem cutS_take {long short : Int} (hs : 1 ≤ short) (hl : short ≤ long) : ∀ (k : Nat) (f t : Int), ∀ n, n < (cutS long short k f t).length → ∀ k' : Nat, ((cutS long short k f t).getD n (0, 0)).2 - f ≤ k' →
    cutS long short k' f ((cutS long short k f t).getD n (0, 0)).2 = (cutS long short k f t).take (n + 1) := by
  intro k
  induction k with
  | zero => intro f t n hn; simp [cutS] at hn
  | succ k ih =>
    intro f t n hn k' hk'
    by_cases hf : f < t
    · rw [cutS, if_pos hf] at hn hk' ⊢
      generalize he : (if t - (f + long) < short then t else f + long) = e at hn hk' ⊢
      have hfe : f < e := by
        rw [← he]
        split <;> omega
      cases n with
      | zero =>
        simp only [List.getD_cons_zero] at hk' ⊢
        cases k' with
        | zero => omega
        | succ k' =>
          rw [cutS, if_pos hfe]
          have hee : (if e - (f + long) < short then e else f + long) = e := by
            split
            · rfl
            · next h1 =>
              exfalso
              apply h1
              rw [← he]
              split <;> omega
          rw [hee, List.take_succ_cons, List.take_zero]
          cases k' with
          | zero => rfl
          | succ k' => rw [cutS, if_neg (by omega)]
      | succ n =>
        simp only [List.getD_cons_succ] at hk' ⊢
        simp only [List.length_cons] at hn
        have hn' : n < (cutS long short k e t).length := by omega
        obtain ⟨m1, m2, m3, m4, m5⟩ := cutS_mem hs hl k e t _ (getD_mem hn')
        have hI := ih e t n hn'
        generalize hto : ((cutS long short k e t).getD n (0, 0)).2 = to at hk' hI m2 m3 m4 m5 ⊢
        generalize ((cutS long short k e t).getD n (0, 0)).1 = fr at m1 m2 m4 m5
        have het : e = f + long ∧ short ≤ t - e := by
          by_cases hc : t - (f + long) < short
          · rw [if_pos hc] at he
            omega
          · rw [if_neg hc] at he
            omega
        have hge : short ≤ to - e := by
          by_cases hc : to - fr < short
          · have := m5 hc
            omega
          · omega
        cases k' with
        | zero => omega
        | succ k' =>
          rw [cutS, if_pos (by omega), if_neg (by omega), List.take_succ_cons, ← het.1, hI k' (by omega)]
    · rw [cutS, if_neg hf] at hn
      simp at hn

theorem pieces_take {long short : Int} (hs : 1 ≤ short) (hl : short ≤ long) {f t : Int} {n : Nat} (hn : n < (piecesOf long short (f, t)).length) :
    piecesOf long short (f, ((piecesOf long short (f, t)).getD n (0, 0)).2) = (piecesOf long short (f, t)).take (n + 1) := by
  unfold piecesOf at hn ⊢
  exact cutS_take hs hl _ f t n hn _ (by simp only; omega)

/-- The pauses that are over by a second. -/
def cutL (to : Int) (L : List (Int × Int)) : List (Int × Int) := L.filter fun p => decide (p.2 ≤ to)

theorem cutL_late {to : Int} : ∀ (L : List (Int × Int)) (f t : Int), Asc f t L → to ≤ f → cutL to L = [] := by
  intro L
  induction L with
  | nil => intro f t _ _; rfl
  | cons p ps ih =>
    intro f t h hto
    obtain ⟨h1, h2, h3⟩ := h
    unfold cutL
    rw [List.filter_cons, if_neg (by simp; omega)]
    exact ih p.2 t h3 (by omega)

theorem cutL_take {to : Int} : ∀ (L : List (Int × Int)) (f t : Int), Asc f t L → ∃ m, m ≤ L.length ∧ cutL to L = L.take m ∧ ∀ k, k < m → (L.getD k (0, 0)).2 ≤ to := by
  intro L
  induction L with
  | nil => intro f t _; exact ⟨0, Nat.zero_le _, rfl, fun k h => by omega⟩
  | cons p ps ih =>
    intro f t h
    obtain ⟨h1, h2, h3⟩ := h
    by_cases hp : p.2 ≤ to
    · obtain ⟨m, hm, he, hk⟩ := ih p.2 t h3
      refine ⟨m + 1, by simp only [List.length_cons]; omega, ?_, fun k hk' => ?_⟩
      · unfold cutL at he ⊢
        rw [List.filter_cons, if_pos (by simpa using hp), he, List.take_succ_cons]
      · cases k with
        | zero => exact hp
        | succ k => exact hk k (by omega)
    · refine ⟨0, Nat.zero_le _, ?_, fun k h => by omega⟩
      have := cutL_late (to := to) ps p.2 t h3 (by omega)
      unfold cutL at this ⊢
      rw [List.filter_cons, if_neg (by simpa using hp), this, List.take_zero]

theorem strs_take {long short : Int} (hs : 1 ≤ short) (hl : short ≤ long) : ∀ (L : List (Int × Int)) (f len : Int), Asc f len L → ∀ n, n < ((strs len f L).flatMap (piecesOf long short)).length →
    (strs (((strs len f L).flatMap (piecesOf long short)).getD n (0, 0)).2 f (cutL (((strs len f L).flatMap (piecesOf long short)).getD n (0, 0)).2 L)).flatMap (piecesOf long short) = ((strs len f L).flatMap (piecesOf long short)).take (n + 1) := by
  intro L
  induction L with
  | nil =>
    intro f len h n hn
    rw [strs] at hn ⊢
    by_cases hc : f < len
    · rw [if_pos hc, List.flatMap_cons, List.flatMap_nil, List.append_nil] at hn ⊢
      have hm := (pieces_full (long := long) (short := short) (by omega) (by omega) (show f ≤ len by omega)).asc.at hn
      rw [show ∀ x, cutL x [] = [] from fun _ => rfl, strs, if_pos (by omega), List.flatMap_cons, List.flatMap_nil, List.append_nil]
      exact pieces_take hs hl hn
    · rw [if_neg hc] at hn
      simp at hn
  | cons p ps ih =>
    intro f len h n hn
    obtain ⟨h1, h2, h3⟩ := h
    have hI := ih p.2 len h3
    have hA := (rest_of (long := long) (short := short) (by omega) (by omega) ps p.2 h3).1
    rw [strs] at hn ⊢
    generalize hX : (strs len p.2 ps).flatMap (piecesOf long short) = X at hI hA
    by_cases hc : f < p.1
    · rw [if_pos hc, List.flatMap_cons, hX] at hn ⊢
      have hF := (pieces_full (long := long) (short := short) (by omega) (by omega) (show f ≤ p.1 by omega)).asc
      by_cases hna : n < (piecesOf long short (f, p.1)).length
      · have hm := hF.at hna
        have hg : ((piecesOf long short (f, p.1)) ++ X).getD n (0, 0) = (piecesOf long short (f, p.1)).getD n (0, 0) := by
          rw [List.getD_eq_getElem?_getD, List.getElem?_append_left hna, List.getD_eq_getElem?_getD]
        rw [hg]
        have hP := pieces_take hs hl hna
        have hfar : cutL ((piecesOf long short (f, p.1)).getD n (0, 0)).2 (p :: ps) = [] := by
          unfold cutL
          rw [List.filter_cons, if_neg (by rw [decide_eq_true_eq]; omega)]
          exact cutL_late ps p.2 len h3 (by omega)
        rw [hfar, strs, if_pos (by omega), List.flatMap_cons, List.flatMap_nil, List.append_nil, hP, List.take_append_of_le_length (by omega)]
      · have hlt : n - (piecesOf long short (f, p.1)).length < X.length := by
          rw [List.length_append] at hn
          omega
        have hg : ((piecesOf long short (f, p.1)) ++ X).getD n (0, 0) = X.getD (n - (piecesOf long short (f, p.1)).length) (0, 0) := by
          rw [List.getD_eq_getElem?_getD, List.getElem?_append_right (by omega), List.getD_eq_getElem?_getD]
        rw [hg]
        have hm := hA.at hlt
        have hI' := hI _ hlt
        have hnear : ∀ to : Int, p.2 ≤ to → cutL to (p :: ps) = p :: cutL to ps := by
          intro to hto
          unfold cutL
          rw [List.filter_cons, if_pos (by simpa using hto)]
        have hlen : (piecesOf long short (f, p.1)).length ≤ n + 1 := by omega
        have e1 : (piecesOf long short (f, p.1) ++ X).take (n + 1) = piecesOf long short (f, p.1) ++ X.take (n - (piecesOf long short (f, p.1)).length + 1) := by
          rw [List.take_append, List.take_of_length_le hlen, show n + 1 - (piecesOf long short (f, p.1)).length = n - (piecesOf long short (f, p.1)).length + 1 from by omega]
        rw [hnear _ (by omega), strs, if_pos hc, List.flatMap_cons, hI', e1]
    · rw [if_neg hc, hX] at hn ⊢
      have hm := hA.at hn
      have hnear : ∀ to : Int, p.2 ≤ to → cutL to (p :: ps) = p :: cutL to ps := by
        intro to hto
        unfold cutL
        rw [List.filter_cons, if_pos (by simpa using hto)]
      rw [hnear _ (by omega), strs, if_neg hc]
      exact hI n hn

/-- A sitting that ends with one of its takes is valid, and has the takes up to that one. -/
theorem cut_takes {len long short : Int} {L : List (Int × Int)} (h : sitOk len long short L = true) {n : Nat} (hn : n < (takesOf len long short L).length) :
    sitOk ((takesOf len long short L).getD n (0, 0)).2 long short (cutL ((takesOf len long short L).getD n (0, 0)).2 L) = true ∧
    takesOf ((takesOf len long short L).getD n (0, 0)).2 long short (cutL ((takesOf len long short L).getD n (0, 0)).2 L) = (takesOf len long short L).take (n + 1) := by
  obtain ⟨h1, h2, h3, h4⟩ := sitOk_parts h
  obtain ⟨hA, hT, -, -⟩ := takes_all h
  have hb := hT.at hn
  refine ⟨?_, strs_take h3.1 h3.2 L 0 len hA n hn⟩
  generalize ((takesOf len long short L).getD n (0, 0)).1 = fr at hb
  generalize ((takesOf len long short L).getD n (0, 0)).2 = to at hb ⊢
  obtain ⟨m, hm, he, hk⟩ := cutL_take (to := to) L 0 len hA
  have hp : pausesOk to (cutL to L) = true := by
    rw [he]
    unfold pausesOk at h4 ⊢
    rw [List.all_eq_true] at h4 ⊢
    intro k hk'
    have hkm : k < m := by
      have : k < (L.take m).length := by simpa using hk'
      rw [List.length_take] at this
      omega
    have hg : ∀ j, j < m → (L.take m).getD j (0, 0) = L.getD j (0, 0) := fun j hj => by
      rw [List.getD_eq_getElem?_getD, List.getElem?_take_of_lt hj, List.getD_eq_getElem?_getD]
    have h5 := h4 k (by simp; omega)
    have h6 := hk k hkm
    cases k with
    | zero =>
      simp only [pauseOk, okSpan, decide_eq_true_eq] at h5 ⊢
      rw [hg 0 hkm]
      omega
    | succ k =>
      simp only [pauseOk, okSpan, Bool.and_eq_true, decide_eq_true_eq] at h5 ⊢
      rw [hg (k + 1) hkm, hg k (by omega)]
      exact ⟨h5.1, by omega⟩
  unfold sitOk
  rw [hp]
  simp [inB]
  omega

theorem getD_take {T : List (Int × Int)} {m i : Nat} (h : i < m) : (T.take m).getD i (0, 0) = T.getD i (0, 0) := by
  rw [List.getD_eq_getElem?_getD, List.getElem?_take_of_lt h, List.getD_eq_getElem?_getD]

theorem look_take {delay : Int} {C : List (Int × Int × Int)} {T : List (Int × Int)} {R : List Nat} {k m r : Nat} (hk : k < m) : ∀ i, i ≤ k → lookN delay C (T.take m) R k r i = lookN delay C T R k r i := by
  intro i
  induction i with
  | zero => intro _; rfl
  | succ i ih =>
    intro hi
    rw [lookN, lookN, ih (by omega)]
    unfold freeW doneM
    rw [getD_take (by omega), getD_take hk]

theorem rota_take {due delay : Int} {C : List (Int × Int × Int)} {T : List (Int × Int)} {R : List Nat} {k m : Nat} (hk : k < m) : rotaOk due delay C (T.take m) R k = rotaOk due delay C T R k := by
  unfold rotaOk
  rw [look_take hk k (Nat.le_refl _)]
  unfold doneM
  rw [getD_take hk]

theorem path_lt {p : How} : ∀ (rs : List Nat) (k : Nat) (H : List Nat), p.path rs k H → ∀ r ∈ rs, r < p.cn := by
  intro rs
  induction rs with
  | nil => intro k H _ r hr; simp at hr
  | cons x rs ih =>
    intro k H hp r hr
    rcases List.mem_cons.1 hr with rfl | hr
    · exact hp.2.1
    · exact ih _ _ hp.2.2.2 r hr

theorem mem_getD {R : List Nat} {n : Nat} (h : ∀ r ∈ R, r < n) : ∀ j, j < R.length → R.getD j 0 < n := fun j hj => by
  rw [List.getD_eq_getElem?_getD, List.getElem?_eq_getElem hj, Option.getD_some]
  exact h _ (List.getElem_mem hj)

/-- A way through the first takes is a list of reporters that are right there. -/
theorem path_iff {due delay : Int} {C : List (Int × Int × Int)} {T : List (Int × Int)} {R : List Nat} {f t : Int} (h : Asc f t T) (hl : R.length ≤ T.length) (h5 : C.length ≤ 5) :
    (howOf due delay C T).path R 0 [0, 0, 0, 0, 0] ↔ (∀ r ∈ R, r < C.length) ∧ ∀ k, k < R.length → rotaOk due delay C T R k = true := by
  have hkey : (∀ r ∈ R, r < C.length) → ((howOf due delay C T).path R 0 [0, 0, 0, 0, 0] ↔ ∀ k, k < R.length → rotaOk due delay C T R k = true) := by
    intro hr
    rw [← right_path R 0 _ (by rw [Nat.zero_add]; exact hl) hr, right_all (fun j hj => by have := mem_getD hr j hj; omega)]
    have hstep : ∀ k, k < R.length → ((howOf due delay C T).may k (R.getD k 0) (decide (standN (howOf due delay C T) R (R.getD k 0) k ≤ k)) = true ↔ rotaOk due delay C T R k = true) := by
      intro k hk
      rw [stand_look h (by omega) k (Nat.le_refl _)]
      unfold rotaOk
      simp only [howOf, Bool.and_eq_true, decide_eq_true_eq]
      exact ⟨fun h => ⟨h.2, h.1⟩, fun h => ⟨h.2, h.1⟩⟩
    exact ⟨fun h k hk => (hstep k hk).1 (h k hk), fun h k hk => (hstep k hk).2 (h k hk)⟩
  constructor
  · intro hp
    have hr := path_lt R 0 _ hp
    exact ⟨hr, (hkey hr).1 hp⟩
  · rintro ⟨hr, hp⟩
    exact (hkey hr).2 hp

theorem path_take {due delay : Int} {C : List (Int × Int × Int)} {T : List (Int × Int)} {R : List Nat} {f t : Int} {m : Nat} (h : Asc f t T) (h' : Asc f t (T.take m)) (hm : m ≤ T.length) (hl : R.length ≤ m) (h5 : C.length ≤ 5) :
    (howOf due delay C (T.take m)).path R 0 [0, 0, 0, 0, 0] ↔ (howOf due delay C T).path R 0 [0, 0, 0, 0, 0] := by
  rw [path_iff h' (by rw [List.length_take]; omega) h5, path_iff h (by omega) h5]
  constructor
  · rintro ⟨h1, h2⟩
    exact ⟨h1, fun k hk => by rw [← rota_take (m := m) (by omega)]; exact h2 k hk⟩
  · rintro ⟨h1, h2⟩
    exact ⟨h1, fun k hk => by rw [rota_take (m := m) (by omega)]; exact h2 k hk⟩

theorem asc_take {t : Int} : ∀ (T : List (Int × Int)) (f : Int) (m : Nat), Asc f t T → Asc f t (T.take m) := by
  intro T
  induction T with
  | nil => intro f m h; rw [List.take_nil]; exact h
  | cons x T ih =>
    intro f m h
    cases m with
    | zero => exact Asc.le (X := x :: T) h
    | succ m => exact ⟨h.1, h.2.1, ih x.2 m h.2.2⟩

/-- Where no way comes to the end, no list is a right rota. -/
theorem prove_dead {len long short due delay : Int} {L : List (Int × Int)} {C : List (Int × Int × Int)} {Z : List Int} (hf : faultM len long short due delay L C = 0)
    (hd : ∀ R, (howOf due delay C (takesOf len long short L)).path R 0 [0, 0, 0, 0, 0] → R.length = (takesOf len long short L).length → False) : proveM len long short due delay L C Z = false := by
  obtain ⟨h1, h2⟩ := fault_ok hf
  obtain ⟨h3, h4⟩ := sitErr_zero h1
  obtain ⟨-, hA, -, -⟩ := takes_all h3
  obtain ⟨o1, -⟩ := offOk_parts h2
  rw [prove_ok hf]
  refine Bool.eq_false_iff.2 fun hc => ?_
  simp only [Bool.and_eq_true, List.all_eq_true] at hc
  obtain ⟨hst, hk⟩ := hc
  have hs := staffs_at hst
  have hlz : (Z.map Int.toNat).length = (takesOf len long short L).length := by rw [List.length_map]; exact hs.1
  refine hd (Z.map Int.toNat) ((path_iff hA (by omega) o1.2).2 ⟨?_, fun k hk' => hk k (by simpa using hk')⟩) hlz
  intro r hr
  obtain ⟨i, hi, rfl⟩ := List.getElem_of_mem hr
  have := toNat_lt hst i (by omega)
  rwa [List.getD_eq_getElem?_getD, List.getElem?_eq_getElem hi, Option.getD_some] at this

end Go.Proofs.Ytgapbaelifcifaa

namespace Go.Proofs.Ytgapbaelifcifaa
open Go.RowKit

set_option maxRecDepth 100000 in
set_option maxHeartbeats 4000000 in
theorem cutR_any (L : List (Int × Int)) (len long short to : Int) (n cap : Nat) (a : Option Addr) (w : World)
    (hL : L.length = n) (hn : n ≤ 60) (hS : Spans w a L) :
    Calls Try.prog 50 #[.agg #[.int .i64 len, .slice a n cap, .int .i64 long, .int .i64 short], .int .i64 to] w fun e w' =>
      ∃ ra rn rc, e = .returned (.agg #[.int .i64 to, .slice ra rn rc, .int .i64 long, .int .i64 short]) ∧ rn ≤ n ∧ Hid ((cutL to L).length = rn) ∧ Spans w' ra (cutL to L) ∧ w'.ownsRow w.heap.size 51 2 (.slice ra rn rc) rn (flat2 (cutL to L)) ∧ Below w.heap.size w w' := by
  have HL := hid hL
  clear hL
  obtain ⟨i0, hi, hz0, hz1, hz2⟩ := info_parts Try.info51
  go_enter Try.func50, Try.ntmps50
  go_wp2_with fail
  obtain ⟨W0, hW0⟩ : ∃ W0, W0 = ((w.alloc (.cells #[.int .i64 len, .slice a n cap, .int .i64 long, .int .i64 short] 24)).alloc (.cells #[.int .i64 0, .slice none 0 0, .int .i64 0, .int .i64 0] 24)).alloc (.cells #[.int .i64 to, .slice none 0 0, .int .i64 long, .int .i64 short] 24) := ⟨_, rfl⟩
  have hB0 : Below w.heap.size w W0 := by rw [hW0]; exact (((Below.refl _ w).alloc (Nat.le_refl _) _).alloc (by simp) _).alloc (by simp; omega) _
  have z0 : W0.heap.size = w.heap.size + 3 := by rw [hW0]; simp
  have c1 : W0.cell? ⟨w.heap.size, 1, none⟩ = some (.slice a n cap) := by rw [hW0]; simp [go_sem]
  have hT0 : W0.heap[w.heap.size + 1 + 1]? = some (.cells #[.int .i64 to, .slice none 0 0, .int .i64 long, .int .i64 short] 24 (0, 0)) := by rw [hW0]; have := World.alloc_heap_new ((w.alloc (.cells #[.int .i64 len, .slice a n cap, .int .i64 long, .int .i64 short] 24)).alloc (.cells #[.int .i64 0, .slice none 0 0, .int .i64 0, .int .i64 0] 24)) (.cells #[.int .i64 to, .slice none 0 0, .int .i64 long, .int .i64 short] 24); simp only [World.size_alloc] at this; exact this
  have r0 : W0.cell? ⟨w.heap.size + 1, 0, none⟩ = some (.int .i64 0) := by rw [hW0]; simp [go_sem]
  have s0 : W0.frozen? ⟨w.heap.size + 1, 0, none⟩ = false := by rw [hW0]; simp [go_sem]
  have r1 : W0.cell? ⟨w.heap.size + 1, 1, none⟩ = some (.slice none 0 0) := by rw [hW0]; simp [go_sem]
  have s1 : W0.frozen? ⟨w.heap.size + 1, 1, none⟩ = false := by rw [hW0]; simp [go_sem]
  have r2 : W0.cell? ⟨w.heap.size + 1, 2, none⟩ = some (.int .i64 0) := by rw [hW0]; simp [go_sem]
  have s2 : W0.frozen? ⟨w.heap.size + 1, 2, none⟩ = false := by rw [hW0]; simp [go_sem]
  have r3 : W0.cell? ⟨w.heap.size + 1, 3, none⟩ = some (.int .i64 0) := by rw [hW0]; simp [go_sem]
  have s3 : W0.frozen? ⟨w.heap.size + 1, 3, none⟩ = false := by rw [hW0]; simp [go_sem]
  rw [← hW0]
  clear hW0
  go_loopw [6] (fun i wr => ∃ (k m : Nat) (v : Value), k ≤ n ∧ i = .int .i64 k ∧ m ≤ k ∧ Hid ((cutL to (L.take k)).length = m) ∧ wr.ownsRow (w.heap.size + 3) 51 2 v m (flat2 (cutL to (L.take k))) ∧ wr.heap[w.heap.size + 1 + 1]? = some (.cells #[.int .i64 to, v, .int .i64 long, .int .i64 short] 24 (0, 0)) ∧ Below (w.heap.size + 2) W0 wr ∧ w.heap.size + 3 ≤ wr.heap.size) (fun i _ => n - (intOf i).toNat)
  case atStart => exact ⟨0, 0, _, Nat.zero_le _, rfl, Nat.le_refl _, hid rfl, World.ownsRow_nil _ _ _ _, hT0, Below.refl _ _, by omega⟩
  case round =>
    obtain ⟨k, m, v, hk, rfl, hmk, hml, hown, hT, hB, hz⟩ := hrel
    have hBw : Below w.heap.size w wr := hB0.trans (hB.mono (by omega))
    replace c1 := (hB.cell (p := ⟨w.heap.size, 1, none⟩) (by simp)).trans c1
    have t0 := (cell_of_row wr (w.heap.size + 1 + 1) 0 _ _ _ hT).trans rfl
    have t1 := (cell_of_row wr (w.heap.size + 1 + 1) 1 _ _ _ hT).trans rfl
    have t2 := (cell_of_row wr (w.heap.size + 1 + 1) 2 _ _ _ hT).trans rfl
    have t3 := (cell_of_row wr (w.heap.size + 1 + 1) 3 _ _ _ hT).trans rfl
    have u1 : wr.frozen? ⟨w.heap.size + 1 + 1, 1, none⟩ = false := frozen_of_row _ _ _ _ _ hT
    by_cases hlt : k < n
    · obtain ⟨b, off, rfl, e1, e2⟩ := hS k (by rw [HL.out]; exact hlt)
      have gb0 := lt_of_cell e1
      replace e1 := cell_grown hBw e1
      replace e2 := cell_grown hBw e2
      have htk : cutL to (L.take (k + 1)) = cutL to (L.take k) ++ if (L.getD k (0, 0)).2 ≤ to then [L.getD k (0, 0)] else [] := by
        have hl : k < L.length := by rw [HL.out]; exact hlt
        have e : L.take (k + 1) = L.take k ++ [L.getD k (0, 0)] := by rw [List.take_add_one]; simp [List.getElem?_eq_getElem hl]
        unfold cutL
        rw [e, List.filter_append]
        simp only [List.filter_cons, List.filter_nil, decide_eq_true_eq]
      obtain ⟨x, hx⟩ : ∃ x, L.getD k (0, 0) = x := ⟨_, rfl⟩
      rw [hx] at e1 e2 htk
      obtain ⟨x1, x2⟩ := x
      simp only at e1 e2
      have HTK := hid htk
      clear hx htk
      have hkk : (k : Int) < n := by omega
      have gw := lt_of_cell c1
      have gt1 := lt_of_cell t1
      have gb := lt_of_cell e1
      have hstep : ∀ w3 : World, (wr.drew.alloc (.cells #[.int .i64 x1, .int .i64 x2] 51)).grownBy w3 v.ownBlock → w3.heap[w.heap.size + 1 + 1]? = some (.cells #[.int .i64 to, v, .int .i64 long, .int .i64 short] 24 (0, 0)) ∧ Below (w.heap.size + 2) W0 w3 ∧ w3.cell? ⟨w.heap.size + 1 + 1, 1, none⟩ = some v ∧ w3.frozen? ⟨w.heap.size + 1 + 1, 1, none⟩ = false ∧ w.heap.size + 3 ≤ w3.heap.size := by
        intro w3 hgrow
        have hT3 : w3.heap[w.heap.size + 1 + 1]? = some (.cells #[.int .i64 to, v, .int .i64 long, .int .i64 short] 24 (0, 0)) := by
          rw [hgrow.block (w.heap.size + 1 + 1) (by simp; omega) (fun e => by have := (hown.lt _ e.symm).1; omega), Below.heap_alloc _ _ _ (show w.heap.size + 1 + 1 < wr.drew.heap.size by simp; omega)]
          exact hT
        have hz : wr.heap.size + 1 ≤ w3.heap.size := by have := hgrow.size; simpa using this
        have hown0 : wr.drew.ownsRow (w.heap.size + 2) 51 2 v m (flat2 (cutL to (L.take k))) := ownsRow_mono hown (by omega)
        exact ⟨hT3, below_of_grown hB.drew hown0 hgrow (show w.heap.size + 2 ≤ wr.heap.size by omega), (cell_of_row w3 (w.heap.size + 1 + 1) 1 _ _ _ hT3).trans rfl, frozen_of_row _ _ _ _ _ hT3, by omega⟩
      by_cases hx2 : x2 ≤ to
      · have HTK2 : Hid (cutL to (L.take (k + 1)) = cutL to (L.take k) ++ [(x1, x2)]) := hid (by rw [HTK.out, if_pos hx2])
        go_wp2_with fail
        go_region_law (refine step_append_lies _ rfl _ _ 22 rfl (w.heap.size + 3) 51 i0 (.agg #[.int .i64 0, .int .i64 0]) 2 16 Try.underlying22 hi hz0 hz1 hz2 rfl (by decide) _ m _ rfl (hown.alloc (.cells #[.int .i64 x1, .int .i64 x2] 51)) ⟨wr.heap.size, 0, none⟩ 1 1 [.int .i64 x1, .int .i64 x2] rfl rfl (cell_two_new _ _ _ _) (fun x hx => by simp at hx; rcases hx with rfl | rfl <;> rfl) (by omega) (by unfold maxLen; omega) (by omega) (by simp; omega) (wr.heap.size + 1) (by simp) ?_; intro g cp w3 hown' hgrow hat hlt'; obtain ⟨hT3, hb3, k1, k2, hz3⟩ := hstep w3 hgrow; clear hgrow hat)
        all_goals
          go_wp2
          exact ⟨⟨k + 1, m + 1, _, by omega, by go_num, by omega, hid (by rw [HTK2.out, List.length_append, hml.out]; rfl), by rw [HTK2.out, flat2_append]; exact ownsRow_setCell_below hown' (by simp) _, (heap_setCell_same w3 (w.heap.size + 1 + 1) 1 _ 24 _ hT3).trans rfl, hb3.setCell (p := ⟨w.heap.size + 1 + 1, 1, none⟩) (by simp) _, by simp; omega⟩, by simp [intOf]; omega⟩
      · have HTK2 : Hid (cutL to (L.take (k + 1)) = cutL to (L.take k)) := hid (by rw [HTK.out, if_neg hx2, List.append_nil])
        go_wp2_with fail
        exact ⟨⟨k + 1, m, v, by omega, by go_num, by omega, hid (by rw [HTK2.out, hml.out]), by rw [HTK2.out]; exact hown, hT, hB, hz⟩, by simp [intOf]; omega⟩
    · have hkn : k = n := by omega
      subst hkn
      have hLk : L.take k = L := List.take_of_length_le (by rw [HL.out]; omega)
      rw [hLk] at hown hml
      have H := hml.out
      rw [← H] at hown
      obtain ⟨va, vc, hv⟩ := owns_shape hown
      rw [H] at hv
      subst hv
      have hB2 := hB
      have m0 := (hB.cell (p := ⟨w.heap.size + 1, 0, none⟩) (by simp)).trans r0
      have n0 := (hB.frozen (p := ⟨w.heap.size + 1, 0, none⟩) (by simp)).trans s0
      have m1 := (hB.cell (p := ⟨w.heap.size + 1, 1, none⟩) (by simp)).trans r1
      have n1 := (hB.frozen (p := ⟨w.heap.size + 1, 1, none⟩) (by simp)).trans s1
      have m2 := (hB.cell (p := ⟨w.heap.size + 1, 2, none⟩) (by simp)).trans r2
      have n2 := (hB.frozen (p := ⟨w.heap.size + 1, 2, none⟩) (by simp)).trans s2
      have m3 := (hB.cell (p := ⟨w.heap.size + 1, 3, none⟩) (by simp)).trans r3
      have n3 := (hB.frozen (p := ⟨w.heap.size + 1, 3, none⟩) (by simp)).trans s3
      have HO := hid hown
      have HB := hid hB
      clear hown hB hB2 H hLk r0 r1 r2 r3 s0 s1 s2 s3
      go_wp2
      have hownm := HO.out
      have H := hml.out
      rw [H] at hownm
      have HX := (ownsRow_setCell_below ((ownsRow_setCell_below ((ownsRow_setCell_below ((ownsRow_setCell_below (hownm) (a := ⟨w.heap.size + 1, 0, none⟩) (by simp) (.int .i64 to))) (a := ⟨w.heap.size + 1, 1, none⟩) (by simp) (.slice va m vc))) (a := ⟨w.heap.size + 1, 2, none⟩) (by simp) (.int .i64 long))) (a := ⟨w.heap.size + 1, 3, none⟩) (by simp) (.int .i64 short))
      have HX2 := HX
      rw [← H] at HX2
      have HS := spans_of_owns HX2
      rw [H] at HS
      refine bodyPost_ret (v := .agg #[.int .i64 to, .slice va m vc, .int .i64 long, .int .i64 short]) (by simp [results, Try.f50, go_sem, m0, m1, m2, m3]) rfl ⟨va, m, vc, rfl, hmk, hml, HS, ownsRow_mono HX (by omega), ((((hBw).setCell (p := ⟨w.heap.size + 1, 0, none⟩) (by simp) _).setCell (p := ⟨w.heap.size + 1, 1, none⟩) (by simp) _).setCell (p := ⟨w.heap.size + 1, 2, none⟩) (by simp) _).setCell (p := ⟨w.heap.size + 1, 3, none⟩) (by simp) _⟩

end Go.Proofs.Ytgapbaelifcifaa
