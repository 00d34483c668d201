/- The law TakeAny: its walk. -/
import Derived.Test.YtgapbaelifcifaaGB
import Derived.Test.YtgapbaelifcifaaGC
import Derived.Sort.AtCall
namespace Go.Proofs.Ytgapbaelifcifaa
open Go.RowKit

theorem best_staffs {due delay : Int} {C : List (Int × Int × Int)} {T : List (Int × Int)} {R : List Nat} (h : (howOf due delay C T).best R 0 [0, 0, 0, 0, 0]) (h5 : C.length ≤ 5) {f t : Int} (hA : Asc f t T) :
    R.length = T.length ∧ (∀ j, j < R.length → R.getD j 0 < C.length) ∧ (∀ k, k < T.length → rotaOk due delay C T R k = true) ∧ staffsM C.length T.length (R.map fun r : Nat => (r : Int)) = true := by
  obtain ⟨h1, h2, -⟩ := h
  have hl : R.length = T.length := by
    rw [Nat.zero_add] at h2
    exact h2
  have hlt : ∀ (rs : List Nat) (k : Nat) (H : List Nat), (howOf due delay C T).path rs k H → ∀ r ∈ rs, r < C.length := by
    intro rs
    induction rs with
    | nil => intro k H _ r hr; simp at hr
    | cons x rs ih =>
      intro k H hp r hr
      rcases List.mem_cons.1 hr with rfl | hr
      · exact hp.2.1
      · exact ih _ _ hp.2.2.2 r hr
  have hr := hlt R 0 _ h1
  have hrj : ∀ j, j < R.length → R.getD j 0 < C.length := fun j hj => by
    rw [List.getD_eq_getElem?_getD, List.getElem?_eq_getElem hj, Option.getD_some]
    exact hr _ (List.getElem_mem hj)
  refine ⟨hl, hrj, ?_, ?_⟩
  · have h3 := (right_path R 0 _ (by rw [Nat.zero_add]; exact Nat.le_of_eq hl) hr).2 h1
    rw [right_rota hA hl (fun j hj => by have := hrj j hj; omega), List.all_eq_true] at h3
    exact fun k hk => h3 k (by simpa [hl] using hk)
  · unfold staffsM
    rw [Bool.and_eq_true, decide_eq_true_eq, List.all_eq_true]
    refine ⟨by rw [List.length_map]; exact hl, fun x hx => ?_⟩
    obtain ⟨r, hrm, rfl⟩ := List.mem_map.1 hx
    have := hr r hrm
    simp only [inB, decide_eq_true_eq]
    omega

theorem map_toNat (R : List Nat) : (R.map fun r : Nat => (r : Int)).map Int.toNat = R := by
  rw [List.map_map]
  conv => rhs; rw [← List.map_id R]
  exact List.map_congr_left fun x _ => by simp

theorem map_get {R : List Nat} {j : Nat} (hj : j < R.length) : (R.map fun r : Nat => (r : Int)).getD j 0 = ((R.getD j 0 : Nat) : Int) := by
  rw [List.getD_eq_getElem?_getD, List.getElem?_map, List.getElem?_eq_getElem hj, List.getD_eq_getElem?_getD, List.getElem?_eq_getElem hj]
  rfl

theorem ends_ok {due delay : Int} {C : List (Int × Int × Int)} {T : List (Int × Int)} {R : List Nat} {Z : List Int} {Rl : List (Int × Int)} {f t : Int} (hA : Asc f t T)
    (hZ : (R.map fun r : Nat => (r : Int)) = Z) (hl : R.length = T.length) (hok : ∀ k, k < T.length → rotaOk due delay C T R k = true)
    (hreal : ∀ j, j < T.length → realOk C Z delay j (Rl.getD j (0, 0)) = true) (hlo : ∀ j, j < T.length → 0 ≤ (C.getD (R.getD j 0) (0, 0, 0)).1) (i : Nat) (hi : i < T.length) :
    (T.getD i (0, 0)).2 ≤ (endsM T Rl).getD i 0 ∧ (endsM T Rl).getD i 0 ≤ (T.getD i (0, 0)).2 + due ∧
    ∀ j, i < j → j < T.length → R.getD j 0 = R.getD i 0 → (endsM T Rl).getD i 0 + (C.getD (R.getD i 0) (0, 0, 0)).2.2 ≤ (T.getD j (0, 0)).1 := by
  have h1 := hreal i hi
  have h2 := hok i hi
  have h0 := hlo i hi
  have hzi : Z.getD i 0 = ((R.getD i 0 : Nat) : Int) := by rw [← hZ, map_get (by omega)]
  unfold realOk at h1
  rw [hzi, Int.toNat_natCast] at h1
  unfold rotaOk at h2
  rw [Bool.and_eq_true, decide_eq_true_eq] at h2
  have hTi := hA.at hi
  have hW : (endsM T Rl).getD i 0 ≤ doneM T i (C.getD (R.getD i 0) (0, 0, 0)).2.1 delay ∧ (T.getD i (0, 0)).2 ≤ (endsM T Rl).getD i 0 := by
    rw [endsM_get hi]
    unfold endM doneM
    simp only [inB, Bool.and_eq_true, decide_eq_true_eq] at h1
    have h3 : ((T.getD i (0, 0)).2 - (T.getD i (0, 0)).1) * (Rl.getD i (0, 0)).1 ≤ ((T.getD i (0, 0)).2 - (T.getD i (0, 0)).1) * (C.getD (R.getD i 0) (0, 0, 0)).2.1 := Int.mul_le_mul_of_nonneg_left h1.1.2 (by omega)
    have h4 : 0 ≤ ((T.getD i (0, 0)).2 - (T.getD i (0, 0)).1) * (Rl.getD i (0, 0)).1 := Int.mul_nonneg (by omega) (by omega)
    omega
  refine ⟨hW.2, by omega, fun j hij hj e => ?_⟩
  have h5 := rota_free hA hok j hj i hij e.symm
  rw [e] at h5
  unfold freeW at h5
  omega

set_option maxRecDepth 100000 in
set_option maxHeartbeats 40000000 in
theorem takeAny_any (L : List (Int × Int)) (len long short : Int) (n cap : Nat) (a : Option Addr) (C : List (Int × Int × Int)) (due delay : Int) (m cc : Nat) (ca : Option Addr) (wn wc : Nat) (wa : Option Addr) (w : World)
    (hL : L.length = n) (hn : n ≤ maxLen) (hS : Spans w a L) (hC : C.length = m) (hm : m ≤ maxLen) (hCr : Crew w ca C) (hwn : wn ≤ maxLen) (hW : Words w wa wn) :
    Calls Try.prog 11 #[.agg #[.int .i64 len, .slice a n cap, .int .i64 long, .int .i64 short], .agg #[.slice ca m cc, .int .i64 due, .int .i64 delay], .slice wa wn wc] w fun e w' => e = .returned (.bool true) ∧ Below w.heap.size w w' := by
  have hn' := hn
  have hm' := hm
  unfold maxLen at hn' hm'
  have HL := hid hL
  have HC := hid hC
  clear hL hC
  go_enter Try.func11, Try.ntmps11
  go_wp2_with fail
  obtain ⟨W0, hW0⟩ : ∃ W0, W0 = (w.alloc (.cells #[.int .i64 len, .slice a n cap, .int .i64 long, .int .i64 short] 24)).alloc (.cells #[.slice ca m cc, .int .i64 due, .int .i64 delay] 27) := ⟨_, rfl⟩
  have hB0 : Below w.heap.size w W0 := by rw [hW0]; exact ((Below.refl _ w).alloc (Nat.le_refl _) _).alloc (by simp) _
  have z0 : W0.heap.size = w.heap.size + 2 := by rw [hW0]; simp
  have y0 : W0.cell? ⟨w.heap.size, 0, none⟩ = some (.int .i64 len) := by rw [hW0]; simp [go_sem]
  have y1 : W0.cell? ⟨w.heap.size, 1, none⟩ = some (.slice a n cap) := by rw [hW0]; simp [go_sem]
  have y2 : W0.cell? ⟨w.heap.size, 2, none⟩ = some (.int .i64 long) := by rw [hW0]; simp [go_sem]
  have y3 : W0.cell? ⟨w.heap.size, 3, none⟩ = some (.int .i64 short) := by rw [hW0]; simp [go_sem]
  have x0 : W0.cell? ⟨w.heap.size + 1, 0, none⟩ = some (.slice ca m cc) := by rw [hW0]; simp [go_sem]
  have x1 : W0.cell? ⟨w.heap.size + 1, 1, none⟩ = some (.int .i64 due) := by rw [hW0]; simp [go_sem]
  have x2 : W0.cell? ⟨w.heap.size + 1, 2, none⟩ = some (.int .i64 delay) := by rw [hW0]; simp [go_sem]
  rw [← hW0]
  clear hW0
  have hS0 := hS.grown hB0
  have hC0 := hCr.grown hB0
  have hW0' := hW.grown hB0
  refine (ready_any L C len long short due delay n cap m cc a ca W0 HL.out hn hS0 HC.out hm hC0).mono ?_
  obtain ⟨th, hth⟩ : ∃ b, ((decide (n ≤ 60) && decide (m ≤ 8)) && decide (faultM len long short due delay L C = 0)) = b := ⟨_, rfl⟩
  rw [hth]
  rintro e w1 ⟨rfl, hb1⟩
  replace y0 := cell_grown hb1 y0
  replace y1 := cell_grown hb1 y1
  replace y2 := cell_grown hb1 y2
  replace y3 := cell_grown hb1 y3
  replace x0 := cell_grown hb1 x0
  replace x1 := cell_grown hb1 x1
  replace x2 := cell_grown hb1 x2
  replace hS0 := hS0.grown hb1
  replace hC0 := hC0.grown hb1
  replace hW0' := hW0'.grown hb1
  have HB := hid (hB0.trans (hb1.mono (by omega)))
  clear hb1 hB0 hS hCr hW
  cases th
  · go_wp2_with fail
    refine (awake_any w1).mono ?_
    rintro e w' ⟨rfl, hb⟩
    go_wp2
    go_ret
    exact ⟨rfl, HB.out.trans (hb.mono HB.out.size)⟩
  · have hth' : (n ≤ 60 ∧ m ≤ 8) ∧ faultM len long short due delay L C = 0 := by simpa using hth
    clear hth
    obtain ⟨⟨hn60, hm8⟩, hfz⟩ := hth'
    obtain ⟨hs0, ho0⟩ := fault_ok hfz
    obtain ⟨hok, h40⟩ := sitErr_zero hs0
    have HFV := hid hfz
    have HO := hid ho0
    have HOK := hid hok
    obtain ⟨ho1, hdueb, hdelb, -⟩ := offOk_parts ho0
    have hc5 : m ≤ 5 := by rw [← HC.out]; exact ho1.2
    have HBC : Hid (∀ i, i < m → 0 ≤ (C.getD i (0, 0, 0)).1 ∧ (C.getD i (0, 0, 0)).1 ≤ (C.getD i (0, 0, 0)).2.1 ∧ (C.getD i (0, 0, 0)).2.1 ≤ 20 ∧ 0 ≤ (C.getD i (0, 0, 0)).2.2 ∧ (C.getD i (0, 0, 0)).2.2 ≤ 36000) := hid (fun i hi => by
      have := crewOk_at (offOk_parts ho0).2.2.2 (i := i) (by rw [HC.out]; exact hi)
      generalize C.getD i (0, 0, 0) = x at this ⊢
      have h3' : (0 ≤ x.1 ∧ x.1 ≤ x.2.1) ∧ x.2.1 ≤ 20 ∧ 0 ≤ x.2.2 ∧ x.2.2 ≤ 36000 := by simpa [repOk, inB] using this
      omega)
    clear hfz hs0 ho0 hok ho1
    have hBd : Below w1.heap.size w1 w1.drew := (Below.refl _ _).drew
    go_wp2_with fail
    go_region_held3 (fun w' : World => w'.cell? ⟨w.heap.size, 0, none⟩ = some (.int .i64 len) ∧ w'.cell? ⟨w.heap.size, 1, none⟩ = some (.slice a n cap) ∧ w'.cell? ⟨w.heap.size, 2, none⟩ = some (.int .i64 long) ∧ w'.cell? ⟨w.heap.size, 3, none⟩ = some (.int .i64 short) ∧ w'.cell? ⟨w.heap.size + 1, 0, none⟩ = some (.slice ca m cc) ∧ w'.cell? ⟨w.heap.size + 1, 1, none⟩ = some (.int .i64 due) ∧ w'.cell? ⟨w.heap.size + 1, 2, none⟩ = some (.int .i64 delay)) (exact ⟨y0, y1, y2, y3, x0, x1, x2⟩) (first | (go_at_call 18; replace y0 := cell_grown hBd y0; replace y1 := cell_grown hBd y1; replace y2 := cell_grown hBd y2; replace y3 := cell_grown hBd y3; replace x0 := cell_grown hBd x0; replace x1 := cell_grown hBd x1; replace x2 := cell_grown hBd x2; replace hS0 := hS0.grown hBd; replace hC0 := hC0.grown hBd; replace hW0' := hW0'.grown hBd; refine (sitting_any L len long short n cap a _ HL.out hn60 hS0).mono ?_; rintro e w2 ⟨ra, rc, rfl, hSr, hb2⟩; replace HB := hid (HB.out.trans (hBd.mono HB.out.size)); replace HB := hid (HB.out.trans (hb2.mono HB.out.size)); replace y0 := cell_grown hb2 y0; replace y1 := cell_grown hb2 y1; replace y2 := cell_grown hb2 y2; replace y3 := cell_grown hb2 y3; replace x0 := cell_grown hb2 x0; replace x1 := cell_grown hb2 x1; replace x2 := cell_grown hb2 x2; replace hS0 := hS0.grown hb2; replace hC0 := hC0.grown hb2; replace hW0' := hW0'.grown hb2) | (go_at_call 20; refine (office_any C due delay m cc ca _ HC.out (by omega) hC0).mono ?_; rintro e w3 ⟨rb, rd, rfl, hCr3, hb3⟩; replace HB := hid (HB.out.trans (hb3.mono HB.out.size)); replace hSr := hSr.grown hb3; replace y0 := cell_grown hb3 y0; replace y1 := cell_grown hb3 y1; replace y2 := cell_grown hb3 y2; replace y3 := cell_grown hb3 y3; replace x0 := cell_grown hb3 x0; replace x1 := cell_grown hb3 x1; replace x2 := cell_grown hb3 x2; replace hS0 := hS0.grown hb3; replace hC0 := hC0.grown hb3; replace hW0' := hW0'.grown hb3) | (go_at_call 29; refine (rota_any L len long short due delay C n rc m rd ra rb _ HL.out hn hSr HC.out hm hCr3).mono ?_; intro e w10 hpost; obtain ⟨va, vn, vc, er, R, rfl, hb10, hRn, hRI, HRO⟩ := rota_one hpost HFV.out; replace HB := hid (HB.out.trans (hb10.mono HB.out.size)); replace hW0' := hW0'.grown hb10; replace y0 := cell_grown hb10 y0; replace y1 := cell_grown hb10 y1; replace y2 := cell_grown hb10 y2; replace y3 := cell_grown hb10 y3; replace x0 := cell_grown hb10 x0; replace x1 := cell_grown hb10 x1; replace x2 := cell_grown hb10 x2; replace hS0 := hS0.grown hb10; replace hC0 := hC0.grown hb10))
    clear hpost hb2 hb3 hb10 hSr hCr3 hBd
    rcases HRO with ⟨her, hbest⟩ | ⟨her, hRnil, _⟩
    · subst her
      obtain ⟨-, hA0, -, -⟩ := takes_all HOK.out
      obtain ⟨hbl, hbr, hbok, hbst⟩ := best_staffs hbest (by rw [HC.out]; exact hc5) hA0
      obtain ⟨T, hTT⟩ : ∃ T, takesOf len long short L = T := ⟨_, rfl⟩
      have HTT := hid hTT
      rw [hTT] at hA0 hbl hbok hbst h40
      obtain ⟨Z, hZ⟩ : ∃ Z, (R.map fun r : Nat => (r : Int)) = Z := ⟨_, rfl⟩
      have HZR := hid hZ
      rw [hZ] at hRI hbst
      rw [HC.out] at hbr hbst
      rw [hRn] at hbl hbr
      have HA0 := hid hA0
      have HBR := hid hbr
      have HBOK := hid hbok
      have HBST := hid hbst
      have HTL : Hid (T.length = vn) := hid hbl.symm
      have HZl : Hid (Z.length = vn) := hid (by rw [← hZ, List.length_map, hRn])
      have HRn := hid hRn
      rw [← hbl] at h40
      clear hA0 hbr hbok hbst hbl hZ hbest hTT hRn
      go_wp2_with fail
      refine (sitting_any L len long short n cap a w10 HL.out hn60 hS0).mono ?_
      rintro e w11 ⟨ra, rc, rfl, hSr, hb11⟩
      replace y0 := cell_grown hb11 y0
      replace y1 := cell_grown hb11 y1
      replace y2 := cell_grown hb11 y2
      replace y3 := cell_grown hb11 y3
      replace x0 := cell_grown hb11 x0
      replace x1 := cell_grown hb11 x1
      replace x2 := cell_grown hb11 x2
      replace hS0 := hS0.grown hb11
      replace hC0 := hC0.grown hb11
      replace HB := hid (HB.out.trans (hb11.mono HB.out.size))
      replace hW0' := hW0'.grown hb11
      replace hRI := hRI.grown hb11
      clear hb11
      go_wp2_with fail
      refine (takes_any L len long short n rc ra w11 HL.out hn hSr).mono ?_
      intro e w12 h
      rcases cutPost_cases h with ⟨h1, _⟩ | ⟨_, h2, _⟩ | ⟨ta, tc, vn2, hvn2, _, _, hb12, rfl, hT, _⟩
      · rw [HOK.out] at h1; simp at h1
      · rw [HTT.out, HTL.out] at h2; omega
      rw [HTT.out, HTL.out] at hvn2
      rw [HTT.out] at hT
      subst hvn2
      replace y0 := cell_grown hb12 y0
      replace y1 := cell_grown hb12 y1
      replace y2 := cell_grown hb12 y2
      replace y3 := cell_grown hb12 y3
      replace x0 := cell_grown hb12 x0
      replace x1 := cell_grown hb12 x1
      replace x2 := cell_grown hb12 x2
      replace hS0 := hS0.grown hb12
      replace hC0 := hC0.grown hb12
      replace HB := hid (HB.out.trans (hb12.mono HB.out.size))
      replace hW0' := hW0'.grown hb12
      replace hRI := hRI.grown hb12
      clear hb12 h hSr
      obtain ⟨i51, hi51, hi51a, hi51b, hi51c⟩ := info_parts Try.info51
      obtain ⟨w13, hrun, -, hgrow⟩ := run_makeSlice_full (P := Try.prog) (w := w12.drew) w12.drew.heap.size 22 51 i51 (.agg #[.int .i64 0, .int .i64 0]) 2 Try.underlying22 hi51 hi51a hi51b .i64 .i64 vn (by omega) (by rw [hi51c]; omega) (by unfold maxLen; omega) (Nat.le_refl _)
      have hb13 : Below w12.heap.size w12 w13 := ((Below.refl _ _).drew).trans (Below.grown (Below.refl w12.drew.heap.size w12.drew) hgrow (Nat.le_refl _) (fun k e => nomatch e))
      clear hgrow
      have HST : Hid (staffsM m vn Z = true) := hid (by have := HBST.out; rwa [HTL.out] at this)
      go_wp2_with fail
      go_region_held3 (fun w' : World => w'.cell? ⟨w.heap.size, 0, none⟩ = some (.int .i64 len) ∧ w'.cell? ⟨w.heap.size, 1, none⟩ = some (.slice a n cap) ∧ w'.cell? ⟨w.heap.size, 2, none⟩ = some (.int .i64 long) ∧ w'.cell? ⟨w.heap.size, 3, none⟩ = some (.int .i64 short) ∧ w'.cell? ⟨w.heap.size + 1, 0, none⟩ = some (.slice ca m cc) ∧ w'.cell? ⟨w.heap.size + 1, 1, none⟩ = some (.int .i64 due) ∧ w'.cell? ⟨w.heap.size + 1, 2, none⟩ = some (.int .i64 delay)) (first | exact ⟨y0, y1, y2, y3, x0, x1, x2⟩ | exact ⟨cell_grown hb13 y0, cell_grown hb13 y1, cell_grown hb13 y2, cell_grown hb13 y3, cell_grown hb13 x0, cell_grown hb13 x1, cell_grown hb13 x2⟩) (first | (go_at_call 36; refine (listed_any Z due delay ca _ va m cc vn _ vn vc w13 HZl.out (by omega) (hRI.grown hb13) (by omega) (by omega)).mono ?_; rw [HST.out]; rintro e w14 ⟨rfl, hb14⟩; have hb15 := hb13.trans (hb14.mono hb13.size); replace HB := hid (HB.out.trans (hb15.mono HB.out.size)); replace hW0' := hW0'.grown hb15; replace hRI := hRI.grown hb15; replace hT := hT.grown hb15; replace y0 := cell_grown hb15 y0; replace y1 := cell_grown hb15 y1; replace y2 := cell_grown hb15 y2; replace y3 := cell_grown hb15 y3; replace x0 := cell_grown hb15 x0; replace x1 := cell_grown hb15 x1; replace x2 := cell_grown hb15 x2; replace hS0 := hS0.grown hb15; replace hC0 := hC0.grown hb15))
      clear hrun hb13 hb14 hb15
      obtain ⟨i81, hi81, hi81a, hi81b, hi81c⟩ := info_parts Try.info81
      go_wp2_with fail
      go_loopw [11, 12] (fun v i wr => ∃ k : Nat, k ≤ vn ∧ i = .int .i64 k ∧ (∃ Rl : List (Int × Int), wr.ownsRow w14.heap.size 81 2 v k (flat2 Rl) ∧ Hid (Rl.length = k ∧ ∀ j, j < k → realOk C Z delay j (Rl.getD j (0, 0)) = true)) ∧ Below w14.heap.size w14 wr) (fun _ i _ => vn - (intOf i).toNat)
      case atStart => exact ⟨0, Nat.zero_le _, rfl, ⟨[], World.ownsRow_nil _ _ _ _, ⟨rfl, fun j h => by omega⟩⟩, Below.refl _ _⟩
      case round =>
        obtain ⟨k, hk, rfl, ⟨Rl, hown, hRl⟩, hB⟩ := hrel
        have hzr := hB.size
        by_cases hlt : k < vn
        · have hrk := HBR.out k hlt
          obtain ⟨bz, oz, ea, e1⟩ := hRI k (by rw [HZl.out]; exact hlt)
          obtain ⟨r, hr⟩ : ∃ r, R.getD k 0 = r := ⟨_, rfl⟩
          have hzk : Z.getD k 0 = (r : Int) := by rw [← HZR.out, map_get (by rw [HRn.out]; exact hlt), hr]
          rw [hr] at hrk
          rw [hzk] at e1
          subst ea
          obtain ⟨bc, oc, ea, d1, d2, d3⟩ := hC0 r (by rw [HC.out]; exact hrk)
          have hbC := HBC.out r hrk
          obtain ⟨x, hx⟩ : ∃ x, C.getD r (0, 0, 0) = x := ⟨_, rfl⟩
          rw [hx] at d1 d2 d3 hbC
          obtain ⟨lo, hi, rest⟩ := x
          simp only at d1 d2 d3 hbC
          subst ea
          have HOKV : Hid (∀ z1 z2 : Int, lo ≤ z1 → z1 ≤ hi → 0 ≤ z2 → z2 ≤ delay → realOk C Z delay k (z1, z2) = true) := hid (by
            intro z1 z2 g1 g2 g3 g4
            unfold realOk
            rw [hzk, Int.toNat_natCast, hx]
            simp [inB]
            omega)
          clear hx hzk hr
          have c1 := cell_grown hB e1
          have k1 := cell_grown hB d1
          have k2 := cell_grown hB d2
          have k3 := cell_grown hB d3
          have v0 := cell_grown hB x0
          have v2 := cell_grown hB x2
          have g1 := lt_of_cell c1
          have g2 := lt_of_cell k1
          have g3 := lt_of_cell v0
          have hkk : (k : Int) < vn := by omega
          have hrr : (r : Int) < m := by omega
          go_wp2_with fail
          go_region
          obtain ⟨W1, hW1⟩ : ∃ W1, W1 = (wr.alloc (.cells #[.int .i64 lo, .int .i64 hi, .int .i64 rest] 91)).drew := ⟨_, rfl⟩
          have hBa : Below wr.heap.size wr W1 := by rw [hW1]; exact ((Below.refl _ _).alloc (Nat.le_refl _) _).drew
          have n0 : W1.cell? ⟨wr.heap.size, 0, none⟩ = some (.int .i64 lo) := by rw [hW1]; simp
          have n1 : W1.cell? ⟨wr.heap.size, 1, none⟩ = some (.int .i64 hi) := by rw [hW1]; simp
          have HzW1 : Hid (W1.heap.size = wr.heap.size + 1) := hid (by rw [hW1]; simp)
          rw [← hW1]
          clear hW1 c1 k1 k2 k3 v0 g1 g2 g3 e1 d1 d2 d3
          replace v2 := cell_grown hBa v2
          have g1 := lt_of_cell n0
          have g2 := lt_of_cell v2
          have hBW : Below w14.heap.size w14 W1 := hB.trans (hBa.mono hzr)
          have hown1 := ownsRow_below hown hBa
          have hownd : W1.drew.ownsRow w14.heap.size 81 2 u11 k (flat2 Rl) := hown1
          have hstep : ∀ (z1 z2 : Int) (w3 : World), (W1.drew.alloc (.cells #[.int .i64 z1, .int .i64 z2] 81)).grownBy w3 u11.ownBlock → w3.cell? ⟨wr.heap.size, 0, none⟩ = some (.int .i64 lo) ∧ w3.cell? ⟨wr.heap.size, 1, none⟩ = some (.int .i64 hi) ∧ Below w14.heap.size w14 w3 := by
            intro z1 z2 w3 hgrow
            have hbk : w3.heap[wr.heap.size]? = W1.heap[wr.heap.size]? := by
              rw [hgrow.block wr.heap.size (by simp; omega) (fun e => by have := (hown.lt _ e.symm).2; omega), Below.heap_alloc _ _ _ (show wr.heap.size < W1.drew.heap.size from g1)]
              rfl
            exact ⟨(World.cell?_of_block (w := W1) hbk).trans n0, (World.cell?_of_block (w := W1) hbk).trans n1, below_of_grown hBW.drew hownd hgrow hBW.size⟩
          have hWd := (hW0'.grown hBW).grown ((Below.refl W1.heap.size W1).drew)
          have hk1 : IntKind.i64.wrap (2 * (k : Int)) = 2 * (k : Int) := by rw [IntKind.wrap_i64]; omega
          have hk2 : IntKind.i64.wrap (2 * (k : Int) + 1) = 2 * (k : Int) + 1 := by rw [IntKind.wrap_i64]; omega
          go_wp2_with fail
          go_region_held3 (fun w' : World => w'.cell? ⟨wr.heap.size, 0, none⟩ = some (.int .i64 lo) ∧ w'.cell? ⟨wr.heap.size, 1, none⟩ = some (.int .i64 hi) ∧ w'.cell? ⟨w.heap.size + 1, 2, none⟩ = some (.int .i64 delay)) (first | exact ⟨n0, n1, v2⟩ | exact ⟨cell_grown (Below.alloc (Below.refl _ _) (Nat.le_refl _) _) n0, cell_grown (Below.alloc (Below.refl _ _) (Nat.le_refl _) _) n1, cell_grown (Below.alloc (Below.refl _ _) (Nat.le_refl _) _) v2⟩) (first
            | (go_at_call_has 49 hi; refine (pick_any lo hi (2 * (k : Int)) wn wc wa _ hwn hWd (by omega) (by omega)).mono ?_; rintro e w' ⟨z1, rfl, hz1, rfl⟩)
            | (go_at_call_has 49 delay; refine (pick_any 0 delay (2 * (k : Int) + 1) wn wc wa _ hwn hWd (by omega) (by omega)).mono ?_; rintro e w' ⟨z2, rfl, hz2, rfl⟩)
            | (refine step_append_lies _ rfl _ _ 68 rfl w14.heap.size 81 i81 (.agg #[.int .i64 0, .int .i64 0]) 2 16 Try.underlying68 hi81 hi81a hi81b hi81c rfl (by decide) _ k _ rfl (hownd.alloc (.cells #[.int .i64 z1, .int .i64 z2] 81)) ⟨W1.heap.size, 0, none⟩ 1 1 [.int .i64 z1, .int .i64 z2] rfl rfl (cell_two_new _ _ _ _) (fun x hx => by simp at hx; rcases hx with rfl | rfl <;> rfl) (by omega) (by unfold maxLen; omega) (by omega) (by simp; omega) (W1.heap.size + 1) (by simp) ?_; intro g cp w3 hown' hgrow hat hlt'; obtain ⟨n0, n1, hb3⟩ := hstep z1 z2 w3 hgrow; replace v2 := cell_grown hb3 x2; clear hgrow hat))
          go_wp2
          go_roundw
          case rel => exact ⟨k + 1, by omega, by go_num, ⟨Rl ++ [(z1, z2)], by rw [flat2_append]; exact hown', ⟨by rw [List.length_append, hRl.out.1]; rfl, fun j hj => by
              by_cases e : j = k
              · subst e
                rw [List.getD_eq_getElem?_getD, List.getElem?_append_right (by rw [hRl.out.1]; exact Nat.le_refl _), hRl.out.1, Nat.sub_self]
                exact HOKV.out z1 z2 hz1.1 hz1.2 hz2.1 hz2.2
              · have := hRl.out.2 j (by omega)
                rw [List.getD_eq_getElem?_getD, List.getElem?_append_left (by rw [hRl.out.1]; omega)]
                rwa [List.getD_eq_getElem?_getD] at this⟩⟩, hb3⟩
          case measure => simp [intOf]; omega
        · have hkn : vn = k := by omega
          subst hkn
          obtain ⟨xa, xc, hv⟩ := owns_shape hown
          subst hv
          have HXl := hid hRl.out.1
          have HRE := hid hRl.out.2
          have hSx : Spans wr xa Rl := by
            have h1 := hown
            rw [← HXl.out] at h1
            exact spans_of_owns (cap := xc) (by rw [HXl.out] at h1 ⊢; exact h1)
          have hrm : realsM C Z delay Rl = true := by
            unfold realsM
            rw [decide_eq_true (by rw [HXl.out, HZl.out]), reals_yes (fun j hj => HRE.out j (by rw [HXl.out] at hj; exact hj))]
            rfl
          have HDE : Hid (doneErr len long short due delay L C Z Rl = 0) := hid (by unfold doneErr; rw [if_pos HFV.out, HC.out, HTT.out, HTL.out, if_pos HST.out, if_pos hrm])
          clear hown hRl hrm
          replace y0 := cell_grown hB y0
          replace y1 := cell_grown hB y1
          replace y2 := cell_grown hB y2
          replace y3 := cell_grown hB y3
          replace x0 := cell_grown hB x0
          replace x1 := cell_grown hB x1
          replace x2 := cell_grown hB x2
          replace hS0 := hS0.grown hB
          replace hC0 := hC0.grown hB
          replace HB := hid (HB.out.trans (hB.mono HB.out.size))
          replace hW0' := hW0'.grown hB
          replace hRI := hRI.grown hB
          replace hT := hT.grown hB
          have hBd : Below wr.heap.size wr wr.drew := (Below.refl _ _).drew
          clear hB
          go_wp2_with fail
          go_region_held3 (fun w' : World => w'.cell? ⟨w.heap.size, 0, none⟩ = some (.int .i64 len) ∧ w'.cell? ⟨w.heap.size, 1, none⟩ = some (.slice a n cap) ∧ w'.cell? ⟨w.heap.size, 2, none⟩ = some (.int .i64 long) ∧ w'.cell? ⟨w.heap.size, 3, none⟩ = some (.int .i64 short) ∧ w'.cell? ⟨w.heap.size + 1, 0, none⟩ = some (.slice ca m cc) ∧ w'.cell? ⟨w.heap.size + 1, 1, none⟩ = some (.int .i64 due) ∧ w'.cell? ⟨w.heap.size + 1, 2, none⟩ = some (.int .i64 delay)) (exact ⟨y0, y1, y2, y3, x0, x1, x2⟩) (first | (go_at_call 18; replace y0 := cell_grown hBd y0; replace y1 := cell_grown hBd y1; replace y2 := cell_grown hBd y2; replace y3 := cell_grown hBd y3; replace x0 := cell_grown hBd x0; replace x1 := cell_grown hBd x1; replace x2 := cell_grown hBd x2; replace hS0 := hS0.grown hBd; replace hC0 := hC0.grown hBd; replace hW0' := hW0'.grown hBd; replace hRI := hRI.grown hBd; replace hT := hT.grown hBd; replace hSx := hSx.grown hBd; refine (sitting_any L len long short n cap a _ HL.out hn60 hS0).mono ?_; rintro e w2 ⟨ra, rc, rfl, hSr, hb2⟩; replace HB := hid (HB.out.trans (hBd.mono HB.out.size)); replace HB := hid (HB.out.trans (hb2.mono HB.out.size)); replace y0 := cell_grown hb2 y0; replace y1 := cell_grown hb2 y1; replace y2 := cell_grown hb2 y2; replace y3 := cell_grown hb2 y3; replace x0 := cell_grown hb2 x0; replace x1 := cell_grown hb2 x1; replace x2 := cell_grown hb2 x2; replace hS0 := hS0.grown hb2; replace hC0 := hC0.grown hb2; replace hW0' := hW0'.grown hb2; replace hRI := hRI.grown hb2; replace hT := hT.grown hb2; replace hSx := hSx.grown hb2) | (go_at_call 20; refine (office_any C due delay m cc ca _ HC.out (by omega) hC0).mono ?_; rintro e w3 ⟨rb, rd, rfl, hCr3, hb3⟩; replace HB := hid (HB.out.trans (hb3.mono HB.out.size)); replace hSr := hSr.grown hb3; replace y0 := cell_grown hb3 y0; replace y1 := cell_grown hb3 y1; replace y2 := cell_grown hb3 y2; replace y3 := cell_grown hb3 y3; replace x0 := cell_grown hb3 x0; replace x1 := cell_grown hb3 x1; replace x2 := cell_grown hb3 x2; replace hS0 := hS0.grown hb3; replace hC0 := hC0.grown hb3; replace hW0' := hW0'.grown hb3; replace hRI := hRI.grown hb3; replace hT := hT.grown hb3; replace hSx := hSx.grown hb3) | (go_at_call 35; refine (list_free Z vn vc va _ HZl.out (by omega) hRI).mono ?_; rintro e w4 ⟨vz, rfl, hownz, hb4⟩; obtain ⟨rz2, rzc2, rfl⟩ := owns_shape hownz; have hIz2 := ints_of_owns1 HZl.out hownz; replace HB := hid (HB.out.trans (hb4.mono HB.out.size)); replace hSr := hSr.grown hb4; replace hCr3 := hCr3.grown hb4; replace hSx := hSx.grown hb4; replace y0 := cell_grown hb4 y0; replace y1 := cell_grown hb4 y1; replace y2 := cell_grown hb4 y2; replace y3 := cell_grown hb4 y3; replace x0 := cell_grown hb4 x0; replace x1 := cell_grown hb4 x1; replace x2 := cell_grown hb4 x2; replace hS0 := hS0.grown hb4; replace hC0 := hC0.grown hb4; replace hW0' := hW0'.grown hb4; replace hRI := hRI.grown hb4; replace hT := hT.grown hb4) | (go_at_call 39; refine (doneT_any L len long short due delay C Z Rl n rc m rd vn rzc2 vn xc ra rb rz2 xa _ HL.out hn hSr HC.out hm hCr3 HZl.out (by omega) hIz2 HXl.out (by omega) hSx).mono ?_; intro e w16 hpost; obtain ⟨da, dn, dc, rfl, hb16, HV⟩ := done_one hpost; rw [HDE.out] at HV ⊢; replace HB := hid (HB.out.trans (hb16.mono HB.out.size)); replace y0 := cell_grown hb16 y0; replace y1 := cell_grown hb16 y1; replace y2 := cell_grown hb16 y2; replace y3 := cell_grown hb16 y3; replace x0 := cell_grown hb16 x0; replace x1 := cell_grown hb16 x1; replace x2 := cell_grown hb16 x2; replace hS0 := hS0.grown hb16; replace hC0 := hC0.grown hb16; replace hW0' := hW0'.grown hb16; replace hRI := hRI.grown hb16; replace hT := hT.grown hb16))
          have hdn : vn = dn := by rw [(HV.out.2 (by first | trivial | rfl)).1]; exact HZl.out.symm
          have hD := (HV.out.2 (by first | trivial | rfl)).2
          rw [HTT.out] at hD
          subst hdn
          clear hpost hb2 hb3 hb4 hb16 hSr hCr3 hIz2 hownz hBd HV hSx
          obtain ⟨D, hDD⟩ : ∃ D, endsM T Rl = D := ⟨_, rfl⟩
          rw [hDD] at hD
          have HDL : Hid (D.length = vn) := hid (by rw [← hDD, endsM_length, HTL.out])
          have HEO : Hid (∀ i, i < vn → (T.getD i (0, 0)).2 ≤ D.getD i 0 ∧ D.getD i 0 ≤ (T.getD i (0, 0)).2 + due ∧ ∀ j, i < j → j < vn → R.getD j 0 = R.getD i 0 → D.getD i 0 + (C.getD (R.getD i 0) (0, 0, 0)).2.2 ≤ (T.getD j (0, 0)).1) := hid (by
            have h1 := ends_ok (Rl := Rl) HA0.out HZR.out (by rw [HRn.out, HTL.out]) HBOK.out (fun j hj => HRE.out j (by rw [← HTL.out]; exact hj)) (fun j hj => (HBC.out _ (HBR.out j (by rw [← HTL.out]; exact hj))).1)
            rw [HTL.out, hDD] at h1
            exact h1)
          clear hDD
          go_wp2_with fail
          go_loopw [16] (fun i wr2 => ∃ k : Nat, k ≤ vn ∧ i = .int .i64 k ∧ Below w16.heap.size w16 wr2) (fun i _ => vn - (intOf i).toNat)
          case atStart => exact ⟨0, Nat.zero_le _, rfl, Below.refl _ _⟩
          case round =>
          obtain ⟨i, hi, rfl, hB⟩ := hrel
          have hzr := hB.size
          have HBr := hid (HB.out.trans (hB.mono HB.out.size))
          by_cases hlt : i < vn
          · obtain ⟨bd, od, ea, e1⟩ := hD i (by rw [HDL.out]; exact hlt)
            subst ea
            obtain ⟨bt, ot, ea, e2, e3⟩ := hT i (by rw [HTL.out]; exact hlt)
            subst ea
            obtain ⟨q1, q2, q3⟩ := HEO.out i hlt
            have hbT : 0 ≤ (T.getD i (0, 0)).1 ∧ (T.getD i (0, 0)).1 < (T.getD i (0, 0)).2 ∧ (T.getD i (0, 0)).2 ≤ 36000 := by rw [← HTT.out]; exact takesOf_bd HOK.out (by rw [HTT.out, HTL.out]; exact hlt)
            obtain ⟨r, hr⟩ : ∃ r, R.getD i 0 = r := ⟨_, rfl⟩
            have hrc : r < m := by rw [← hr]; exact HBR.out i hlt
            have hzi : Z.getD i 0 = (r : Int) := by rw [← HZR.out, map_get (by rw [HRn.out]; exact hlt), hr]
            rw [hr] at q3
            have hbC := HBC.out r hrc
            obtain ⟨bz, oz, ea, e4⟩ := hRI i (by rw [HZl.out]; exact hlt)
            subst ea
            rw [hzi] at e4
            obtain ⟨bc, oc, ea, -, -, e5⟩ := hC0 r (by rw [HC.out]; exact hrc)
            subst ea
            obtain ⟨x, hx⟩ : ∃ x, T.getD i (0, 0) = x := ⟨_, rfl⟩
            rw [hx] at e2 e3 q1 q2 hbT
            clear hx hr hzi
            obtain ⟨f, t⟩ := x
            simp only at e2 e3 q1 q2 hbT
            obtain ⟨dv, hdv⟩ : ∃ d, D.getD i 0 = d := ⟨_, rfl⟩
            rw [hdv] at e1 q1 q2 q3
            clear hdv
            obtain ⟨rs, hrs⟩ : ∃ d, (C.getD r (0, 0, 0)).2.2 = d := ⟨_, rfl⟩
            rw [hrs] at e5 q3 hbC
            clear hrs
            have HQ3 := hid q3
            clear q3
            have c1 := cell_grown hB e1
            have c2 := cell_grown hB e2
            have c3 := cell_grown hB e3
            have v1 := cell_grown hB x1
            have g1 := lt_of_cell c1
            have g2 := lt_of_cell c2
            have g3 := lt_of_cell v1
            have hii : (i : Int) < vn := by omega
            have k1 : decide (dv < t) = false := by simp; omega
            have k2 : decide (t + due < dv) = false := by simp; omega
            go_wp2_with fail
            go_big_quiet (fail)
            go_wp2_with fail
            have hBn := below_drewN hB nq
            obtain ⟨w20, hw20⟩ : ∃ W, W = wr.drewN nq := ⟨_, rfl⟩
            rw [← hw20] at hBn ⊢
            clear hw20 c1 c2 c3 v1 g1 g2 g3 k1 k2
            go_loopw [17] (fun jj wr3 => ∃ j : Nat, i + 1 ≤ j ∧ j ≤ vn ∧ jj = .int .i64 (j : Int) ∧ Below w16.heap.size w16 wr3) (fun jj _ => vn - (intOf jj).toNat)
            case atStart => exact ⟨i + 1, Nat.le_refl _, by omega, by go_num, hBn⟩
            case round =>
              obtain ⟨j, hj1, hj2, rfl, hB3⟩ := hrel
              by_cases hlt2 : j < vn
              · obtain ⟨bz', oz', ea, e6⟩ := hRI j (by rw [HZl.out]; exact hlt2)
                simp only [Option.some.injEq, Addr.mk.injEq, and_true] at ea
                obtain ⟨rfl, rfl⟩ := ea
                obtain ⟨bt', ot', ea, e7, -⟩ := hT j (by rw [HTL.out]; exact hlt2)
                simp only [Option.some.injEq, Addr.mk.injEq, and_true] at ea
                obtain ⟨rfl, rfl⟩ := ea
                obtain ⟨s, hs⟩ : ∃ r, R.getD j 0 = r := ⟨_, rfl⟩
                have hzj : Z.getD j 0 = (s : Int) := by rw [← HZR.out, map_get (by rw [HRn.out]; exact hlt2), hs]
                rw [hzj] at e6
                have q3 := HQ3.out j (by omega) hlt2
                rw [hs] at q3
                have hbTj : 0 ≤ (T.getD j (0, 0)).1 ∧ (T.getD j (0, 0)).1 < (T.getD j (0, 0)).2 ∧ (T.getD j (0, 0)).2 ≤ 36000 := by rw [← HTT.out]; exact takesOf_bd HOK.out (by rw [HTT.out, HTL.out]; exact hlt2)
                obtain ⟨fj, hfj⟩ : ∃ d, (T.getD j (0, 0)).1 = d := ⟨_, rfl⟩
                rw [hfj] at e7 q3 hbTj
                clear hfj hzj hs
                have c1 := cell_grown hB3 e1
                have c4 := cell_grown hB3 e4
                have c5 := cell_grown hB3 e5
                have c6 := cell_grown hB3 e6
                have c7 := cell_grown hB3 e7
                have v0 := cell_grown hB3 x0
                have g1 := lt_of_cell c1
                have g2 := lt_of_cell c4
                have g3 := lt_of_cell v0
                have g4 := lt_of_cell c5
                have g5 := lt_of_cell c7
                have hjj : (j : Int) < vn := by omega
                have hrr : (r : Int) < m := by omega
                by_cases hsr : s = r
                · subst hsr
                  have q4 := q3 rfl
                  have k3 : decide (fj < dv + rs) = false := by simp; omega
                  clear q3
                  go_wp2_with fail
                  go_big_quiet (fail)
                  go_wp2_with fail
                  go_roundw
                  case rel => exact ⟨j + 1, by omega, by omega, by go_num, below_drewN hB3 _⟩
                  case measure => simp [intOf]; omega
                · have k3 : ((s : Int) == (r : Int)) = false := by simp; omega
                  have k4 : ¬ (s : Int) = (r : Int) := by omega
                  clear q3
                  go_wp2_with fail
                  go_big_quiet (fail)
                  go_wp2_with fail
                  go_roundw
                  case rel => exact ⟨j + 1, by omega, by omega, by go_num, below_drewN hB3 _⟩
                  case measure => simp [intOf]; omega
              · have hjn : ¬ (j : Int) < vn := by omega
                go_wp2_with fail
                go_roundw
                case rel => exact ⟨i + 1, by omega, by go_num, hB3⟩
                case measure => simp [intOf]; omega
          · have HPV : Hid (proveM len long short due delay L C Z = true) := hid (by
              rw [prove_ok HFV.out, HC.out, HTT.out, HTL.out, HST.out, Bool.true_and, List.all_eq_true]
              intro k hk
              rw [← HZR.out, map_toNat]
              exact HBOK.out k (by rw [HTL.out]; simpa [HZl.out] using hk))
            replace y0 := cell_grown hB y0
            replace y1 := cell_grown hB y1
            replace y2 := cell_grown hB y2
            replace y3 := cell_grown hB y3
            replace x0 := cell_grown hB x0
            replace x1 := cell_grown hB x1
            replace x2 := cell_grown hB x2
            replace hS0 := hS0.grown hB
            replace hC0 := hC0.grown hB
            replace HB := hid (HB.out.trans (hB.mono HB.out.size))
            replace hRI := hRI.grown hB
            have hBd : Below wr.heap.size wr wr.drew := (Below.refl _ _).drew
            clear hB
            go_wp2_with fail
            go_region_held3 (fun w' : World => w'.cell? ⟨w.heap.size, 0, none⟩ = some (.int .i64 len) ∧ w'.cell? ⟨w.heap.size, 1, none⟩ = some (.slice a n cap) ∧ w'.cell? ⟨w.heap.size, 2, none⟩ = some (.int .i64 long) ∧ w'.cell? ⟨w.heap.size, 3, none⟩ = some (.int .i64 short) ∧ w'.cell? ⟨w.heap.size + 1, 0, none⟩ = some (.slice ca m cc) ∧ w'.cell? ⟨w.heap.size + 1, 1, none⟩ = some (.int .i64 due) ∧ w'.cell? ⟨w.heap.size + 1, 2, none⟩ = some (.int .i64 delay)) (exact ⟨y0, y1, y2, y3, x0, x1, x2⟩) (first | (go_at_call 18; replace y0 := cell_grown hBd y0; replace y1 := cell_grown hBd y1; replace y2 := cell_grown hBd y2; replace y3 := cell_grown hBd y3; replace x0 := cell_grown hBd x0; replace x1 := cell_grown hBd x1; replace x2 := cell_grown hBd x2; replace hS0 := hS0.grown hBd; replace hC0 := hC0.grown hBd; replace hRI := hRI.grown hBd; refine (sitting_any L len long short n cap a _ HL.out hn60 hS0).mono ?_; rintro e w2 ⟨ra, rc, rfl, hSr, hb2⟩; replace HB := hid (HB.out.trans (hBd.mono HB.out.size)); replace HB := hid (HB.out.trans (hb2.mono HB.out.size)); replace y0 := cell_grown hb2 y0; replace y1 := cell_grown hb2 y1; replace y2 := cell_grown hb2 y2; replace y3 := cell_grown hb2 y3; replace x0 := cell_grown hb2 x0; replace x1 := cell_grown hb2 x1; replace x2 := cell_grown hb2 x2; replace hS0 := hS0.grown hb2; replace hC0 := hC0.grown hb2; replace hRI := hRI.grown hb2) | (go_at_call 20; refine (office_any C due delay m cc ca _ HC.out (by omega) hC0).mono ?_; rintro e w3 ⟨rb, rd, rfl, hCr3, hb3⟩; replace HB := hid (HB.out.trans (hb3.mono HB.out.size)); replace hSr := hSr.grown hb3; replace y0 := cell_grown hb3 y0; replace y1 := cell_grown hb3 y1; replace y2 := cell_grown hb3 y2; replace y3 := cell_grown hb3 y3; replace x0 := cell_grown hb3 x0; replace x1 := cell_grown hb3 x1; replace x2 := cell_grown hb3 x2; replace hS0 := hS0.grown hb3; replace hC0 := hC0.grown hb3; replace hRI := hRI.grown hb3) | (go_at_call 35; refine (list_free Z vn vc va _ HZl.out (by omega) hRI).mono ?_; rintro e w4 ⟨vz, rfl, hownz, hb4⟩; obtain ⟨rz2, rzc2, rfl⟩ := owns_shape hownz; have hIz2 := ints_of_owns1 HZl.out hownz; replace HB := hid (HB.out.trans (hb4.mono HB.out.size)); replace hSr := hSr.grown hb4; replace hCr3 := hCr3.grown hb4; replace y0 := cell_grown hb4 y0; replace y1 := cell_grown hb4 y1; replace y2 := cell_grown hb4 y2; replace y3 := cell_grown hb4 y3; replace x0 := cell_grown hb4 x0; replace x1 := cell_grown hb4 x1; replace x2 := cell_grown hb4 x2; replace hS0 := hS0.grown hb4; replace hC0 := hC0.grown hb4) | (go_at_call 38; refine (prove_any L len long short due delay C Z n rc m rd vn rzc2 ra rb rz2 _ HL.out hn hSr HC.out hm hCr3 HZl.out (by unfold maxLen; omega) hIz2).mono ?_; rw [HPV.out]; rintro e w5 ⟨rfl, hb5⟩; replace HB := hid (HB.out.trans (hb5.mono HB.out.size)); replace y0 := cell_grown hb5 y0; replace y1 := cell_grown hb5 y1; replace y2 := cell_grown hb5 y2; replace y3 := cell_grown hb5 y3; replace x0 := cell_grown hb5 x0; replace x1 := cell_grown hb5 x1; replace x2 := cell_grown hb5 x2; replace hS0 := hS0.grown hb5; replace hC0 := hC0.grown hb5) | (go_at_call 16; refine (awake_any _).mono ?_; rintro e w6 ⟨rfl, hb6⟩; replace HB := hid (HB.out.trans (hb6.mono HB.out.size)); replace y0 := cell_grown hb6 y0; replace y1 := cell_grown hb6 y1; replace y2 := cell_grown hb6 y2; replace y3 := cell_grown hb6 y3; replace x0 := cell_grown hb6 x0; replace x1 := cell_grown hb6 x1; replace x2 := cell_grown hb6 x2; replace hS0 := hS0.grown hb6; replace hC0 := hC0.grown hb6))
            go_wp2
            go_ret
            exact ⟨rfl, HB.out⟩
    · subst her
      clear hRnil hRI hRn
      go_wp2_with fail
      refine (awake_any w10).mono ?_
      rintro e w' ⟨rfl, hb⟩
      go_wp2
      go_ret
      exact ⟨rfl, HB.out.trans (hb.mono HB.out.size)⟩

end Go.Proofs.Ytgapbaelifcifaa
