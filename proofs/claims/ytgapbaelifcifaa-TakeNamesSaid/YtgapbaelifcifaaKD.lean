/- The law TakeRotas: its walk. -/
import Derived.Test.YtgapbaelifcifaaKC
import Derived.Sort.AtCall
namespace Go.Proofs.Ytgapbaelifcifaa
open Go.RowKit

set_option maxRecDepth 100000 in
set_option maxHeartbeats 2000000 in
theorem few_any (L : List (Int × Int)) (C : List (Int × Int × Int)) (len long short due delay : Int) (n cap m cc : Nat) (a ca : Option Addr) (w : World)
    (hL : L.length = n) (hn : n ≤ maxLen) (hS : Spans w a L) (hC : C.length = m) (hm : m ≤ maxLen) (hCr : Crew w ca C) :
    Calls Try.prog 28 #[.agg #[.int .i64 len, .slice a n cap, .int .i64 long, .int .i64 short], .agg #[.slice ca m cc, .int .i64 due, .int .i64 delay]] w fun e w' =>
      e = .returned (.bool ((decide (n ≤ 60) && decide (m ≤ 8)) && (!decide (faultM len long short due delay L C = 0) || decide ((takesOf len long short L).length ≤ 8)))) ∧ Below w.heap.size w w' := by
  have hn' := hn
  have hm' := hm
  unfold maxLen at hn' hm'
  obtain ⟨z, hz⟩ : ∃ z, ((decide (n ≤ 60) && decide (m ≤ 8)) && (!decide (faultM len long short due delay L C = 0) || decide ((takesOf len long short L).length ≤ 8))) = z := ⟨_, rfl⟩
  rw [hz]
  have HZ := hid hz
  have HL := hid hL
  have HC := hid hC
  clear hL hC hz
  go_enter Try.func28, Try.ntmps28
  go_wp2_with fail
  obtain ⟨W0, hW0⟩ : ∃ W0, W0 = (w.alloc (.cells #[.int .i64 len, .slice a n cap, .int .i64 long, .int .i64 short] 24)).alloc (.cells #[.slice ca m cc, .int .i64 due, .int .i64 delay] 27) := ⟨_, rfl⟩
  have hB0 : Below w.heap.size w W0 := by rw [hW0]; exact ((Below.refl _ w).alloc (Nat.le_refl _) _).alloc (by simp) _
  have y0 : W0.cell? ⟨w.heap.size, 0, none⟩ = some (.int .i64 len) := by rw [hW0]; simp [go_sem]
  have y1 : W0.cell? ⟨w.heap.size, 1, none⟩ = some (.slice a n cap) := by rw [hW0]; simp [go_sem]
  have y2 : W0.cell? ⟨w.heap.size, 2, none⟩ = some (.int .i64 long) := by rw [hW0]; simp [go_sem]
  have y3 : W0.cell? ⟨w.heap.size, 3, none⟩ = some (.int .i64 short) := by rw [hW0]; simp [go_sem]
  have x0 : W0.cell? ⟨w.heap.size + 1, 0, none⟩ = some (.slice ca m cc) := by rw [hW0]; simp [go_sem]
  have x1 : W0.cell? ⟨w.heap.size + 1, 1, none⟩ = some (.int .i64 due) := by rw [hW0]; simp [go_sem]
  have x2 : W0.cell? ⟨w.heap.size + 1, 2, none⟩ = some (.int .i64 delay) := by rw [hW0]; simp [go_sem]
  rw [← hW0]
  clear hW0
  have hS0 := hS.grown hB0
  have hC0 := hCr.grown hB0
  refine (thin_any len long short due delay n cap m cc a ca W0 hn hm).mono ?_
  rintro e w1 ⟨rfl, hb1⟩
  replace y0 := cell_grown hb1 y0
  replace y1 := cell_grown hb1 y1
  replace y2 := cell_grown hb1 y2
  replace y3 := cell_grown hb1 y3
  replace x0 := cell_grown hb1 x0
  replace x1 := cell_grown hb1 x1
  replace x2 := cell_grown hb1 x2
  replace hS0 := hS0.grown hb1
  replace hC0 := hC0.grown hb1
  have hB1 := hB0.trans (hb1.mono hB0.size)
  cases th : (decide (n ≤ 60) && decide (m ≤ 8))
  · have hzf : z = false := by rw [← HZ.out, th]; rfl
    clear th
    go_wp2
    go_ret
    exact ⟨by rw [hzf]; rfl, hB1⟩
  · have hth : n ≤ 60 ∧ m ≤ 8 := by simpa using th
    have HZ2 : Hid (z = (!decide (faultM len long short due delay L C = 0) || decide ((takesOf len long short L).length ≤ 8))) := hid (by rw [← HZ.out, th]; rfl)
    clear th
    go_wp2_with fail
    refine (faultL_any L C len long short due delay n cap m cc a ca w1 HL.out hth.1 hS0 HC.out hm hC0).mono ?_
    rintro e w2 ⟨rfl, hb2⟩
    have hB2 := hB1.trans (hb2.mono hB1.size)
    by_cases hf : faultM len long short due delay L C = 0
    · obtain ⟨hs0, ho0⟩ := fault_ok hf
      obtain ⟨hok, h40⟩ := sitErr_zero hs0
      have HZ3 : Hid (z = decide ((takesOf len long short L).length ≤ 8)) := hid (by rw [HZ2.out, hf]; rfl)
      rw [hf]
      replace y0 := cell_grown hb2 y0
      replace y1 := cell_grown hb2 y1
      replace y2 := cell_grown hb2 y2
      replace y3 := cell_grown hb2 y3
      replace hS0 := hS0.grown hb2
      clear HZ HZ2 hf hs0 ho0 x0 x1 x2
      have HOK := hid hok
      clear hok
      go_wp2_with fail
      refine (takesR_any L len long short n cap a w2 HL.out hth.1 hS0 HOK.out).mono ?_
      rintro e w3 ⟨ra, rc, rfl, hl, hb3⟩
      obtain ⟨q, hq⟩ : ∃ q, (takesOf len long short L).length = q := ⟨_, rfl⟩
      rw [hq] at HZ3
      rw [hq]
      clear hq
      have hB3 := hB2.trans (hb3.mono hB2.size)
      go_wp2_with fail
      go_ret
      exact ⟨by rw [HZ3.out]; simp; omega, hB3⟩
    · have HZ3 : Hid (z = true) := hid (by rw [HZ2.out]; simp [hf])
      obtain ⟨fv, hfv⟩ : ∃ f, faultM len long short due delay L C = f := ⟨_, rfl⟩
      rw [hfv] at hf
      rw [hfv]
      have hfb : (fv == 0) = false := by simpa using hf
      clear HZ HZ2 hfv
      go_wp2_with fail
      go_ret
      exact ⟨by rw [HZ3.out]; rfl, hB2⟩

theorem rota_bad {len long short due delay x : Int} {L : List (Int × Int)} {C : List (Int × Int × Int)} {w w' : World} {e : Ending} (h : RotaPost len long short due delay L C w e w') (hf : faultM len long short due delay L C = x ∧ x ≠ 0) :
    e = .returned (.tuple #[.slice none 0 0, .int .i64 x]) ∧ Below w.heap.size w w' := by
  obtain ⟨hb, ⟨h1, h2⟩ | ⟨h1, _⟩⟩ := h
  · rw [serve_fault, hf.1] at h2
    exact ⟨h2, hb⟩
  · rw [serve_fault, hf.1] at h1
    exact absurd h1 hf.2

theorem fails_bad {len long short due delay x : Int} {L : List (Int × Int)} {C : List (Int × Int × Int)} {w w' : World} {e : Ending} (h : FailsPost len long short due delay L C w e w') (hf : faultM len long short due delay L C = x ∧ x ≠ 0) :
    e = .returned (.tuple #[.int .i64 0, .int .i64 x]) ∧ Below w.heap.size w w' := by
  obtain ⟨hb, ⟨h1, h2⟩ | ⟨h1, _⟩⟩ := h
  · rw [serve_fault, hf.1] at h2
    exact ⟨h2, hb⟩
  · rw [serve_fault, hf.1] at h1
    exact absurd h1 hf.2

theorem best_alive {p : How} {R : List Nat} {rc : Nat} (h : p.best R 0 [0, 0, 0, 0, 0]) (hd : p.dead rc 0 [0, 0, 0, 0, 0]) : False := by
  have := (hd R h.1).1
  have h2 := h.2.1
  omega

theorem fails_shape {len long short due delay : Int} {L : List (Int × Int)} {C : List (Int × Int × Int)} {w w' : World} {e : Ending} (h : FailsPost len long short due delay L C w e w') (hf : faultM len long short due delay L C = 0) :
    ∃ (z fe : Int), e = .returned (.tuple #[.int .i64 z, .int .i64 fe]) ∧ Below w.heap.size w w' ∧
      Hid ((z = 0 ∧ fe = 7 ∧ ∃ R, (howOf due delay C (takesOf len long short L)).best R 0 [0, 0, 0, 0, 0]) ∨
       ∃ q : Nat, z = (q : Int) ∧ fe = 0 ∧ q < (takesOf len long short L).length ∧ (∃ rs, rs.length = q ∧ (howOf due delay C (takesOf len long short L)).path rs 0 [0, 0, 0, 0, 0]) ∧ (howOf due delay C (takesOf len long short L)).dead q 0 [0, 0, 0, 0, 0]) := by
  obtain ⟨hb, ⟨h1, _⟩ | ⟨_, _, ⟨rfl, hR⟩ | ⟨q, rfl, hq, hp, hd⟩⟩⟩ := h
  · rw [serve_fault] at h1
    exact absurd hf h1
  · exact ⟨0, 7, rfl, hb, .inl ⟨rfl, rfl, hR⟩⟩
  · exact ⟨q, 0, rfl, hb, .inr ⟨q, rfl, rfl, hq, hp, hd⟩⟩

theorem none_iff {due delay : Int} {C : List (Int × Int × Int)} {T : List (Int × Int)} {f t : Int} {k : Nat} (h : Asc f t T) (hk : k ≤ T.length) (h5 : C.length ≤ 5) : noneM due delay C T k ↔ ∀ R, R.length = k → ¬ (howOf due delay C T).path R 0 [0, 0, 0, 0, 0] := by
  have hT : Asc f t (T.take k) := asc_take _ _ _ h
  have hl : (T.take k).length = k := by rw [List.length_take]; omega
  unfold noneM
  constructor
  · intro hd R hR hp
    refine (dfs_spec _ _ _ _).2 hd R hR ((fits_path hT (by omega) h5).2 ?_)
    rwa [path_take h hT hk (by omega) h5]
  · intro hn
    cases hd : dfs (okM (-1) due delay C (T.take k)) C.length k [] with
    | none => rfl
    | some X =>
      obtain ⟨rs, -, h1, h2, -⟩ := (dfs_spec _ _ _ _).1 X hd
      have hp := (fits_path hT (by omega) h5).1 h2
      rw [path_take h hT hk (by omega) h5] at hp
      exact absurd hp (hn rs h1)

theorem fails_same {due delay z : Int} {C : List (Int × Int × Int)} {T : List (Int × Int)} {f t : Int} {q : Nat} (h : Asc f t T) (h5 : C.length ≤ 5) (hq : q < T.length) (hw : ∃ rs, rs.length = q ∧ (howOf due delay C T).path rs 0 [0, 0, 0, 0, 0]) (hd : (howOf due delay C T).dead q 0 [0, 0, 0, 0, 0])
    (hz : (z = -1 ∧ ∀ k, k < T.length → ¬ noneM due delay C T (k + 1)) ∨ ∃ q : Nat, z = (q : Int) ∧ q < T.length ∧ noneM due delay C T (q + 1) ∧ ∀ k, k < q → ¬ noneM due delay C T (k + 1)) : z = (q : Int) := by
  have h1 : noneM due delay C T (q + 1) := (none_iff h (by omega) h5).2 fun R hR hp => by
    have := (hd R hp).2
    omega
  have h2 : ∀ k, k < q → ¬ noneM due delay C T (k + 1) := fun k hk hn => by
    obtain ⟨rs, e, hp⟩ := hw
    rw [none_iff h (by omega) h5] at hn
    refine hn (rs.take (k + 1)) (by rw [List.length_take]; omega) ?_
    rw [← List.take_append_drop (k + 1) rs, How.path_append] at hp
    exact hp.1
  rcases hz with ⟨_, h3⟩ | ⟨q', rfl, h4, h5', h6⟩
  · exact absurd h1 (h3 q hq)
  · have a1 : ¬ q' < q := fun hlt => h2 q' hlt h5'
    have a2 : ¬ q < q' := fun hlt => h6 q hlt h1
    omega

set_option maxRecDepth 100000 in
set_option maxHeartbeats 40000000 in
theorem takeRotas_any (L : List (Int × Int)) (len long short : Int) (n cap : Nat) (a : Option Addr) (C : List (Int × Int × Int)) (due delay : Int) (m cc : Nat) (ca : Option Addr) (w : World)
    (hL : L.length = n) (hn : n ≤ maxLen) (hS : Spans w a L) (hC : C.length = m) (hm : m ≤ maxLen) (hCr : Crew w ca C) :
    Calls Try.prog 4 #[.agg #[.int .i64 len, .slice a n cap, .int .i64 long, .int .i64 short], .agg #[.slice ca m cc, .int .i64 due, .int .i64 delay]] w fun e w' => e = .returned (.bool true) ∧ Below w.heap.size w w' := by
  have hn' := hn
  have hm' := hm
  unfold maxLen at hn' hm'
  have HL := hid hL
  have HC := hid hC
  clear hL hC
  go_enter Try.func4, Try.ntmps4
  go_wp2_with fail
  obtain ⟨W0, hW0⟩ : ∃ W0, W0 = (w.alloc (.cells #[.int .i64 len, .slice a n cap, .int .i64 long, .int .i64 short] 24)).alloc (.cells #[.slice ca m cc, .int .i64 due, .int .i64 delay] 27) := ⟨_, rfl⟩
  have hB0 : Below w.heap.size w W0 := by rw [hW0]; exact ((Below.refl _ w).alloc (Nat.le_refl _) _).alloc (by simp) _
  have z0 : W0.heap.size = w.heap.size + 2 := by rw [hW0]; simp
  have y0 : W0.cell? ⟨w.heap.size, 0, none⟩ = some (.int .i64 len) := by rw [hW0]; simp [go_sem]
  have y1 : W0.cell? ⟨w.heap.size, 1, none⟩ = some (.slice a n cap) := by rw [hW0]; simp [go_sem]
  have y2 : W0.cell? ⟨w.heap.size, 2, none⟩ = some (.int .i64 long) := by rw [hW0]; simp [go_sem]
  have y3 : W0.cell? ⟨w.heap.size, 3, none⟩ = some (.int .i64 short) := by rw [hW0]; simp [go_sem]
  have x0 : W0.cell? ⟨w.heap.size + 1, 0, none⟩ = some (.slice ca m cc) := by rw [hW0]; simp [go_sem]
  have x1 : W0.cell? ⟨w.heap.size + 1, 1, none⟩ = some (.int .i64 due) := by rw [hW0]; simp [go_sem]
  have x2 : W0.cell? ⟨w.heap.size + 1, 2, none⟩ = some (.int .i64 delay) := by rw [hW0]; simp [go_sem]
  rw [← hW0]
  clear hW0
  have hS0 := hS.grown hB0
  have hC0 := hCr.grown hB0
  refine (few_any L C len long short due delay n cap m cc a ca W0 HL.out hn hS0 HC.out hm hC0).mono ?_
  obtain ⟨th, hth⟩ : ∃ b, ((decide (n ≤ 60) && decide (m ≤ 8)) && (!decide (faultM len long short due delay L C = 0) || decide ((takesOf len long short L).length ≤ 8))) = b := ⟨_, rfl⟩
  rw [hth]
  rintro e w1 ⟨rfl, hb1⟩
  replace y0 := cell_grown hb1 y0; replace y1 := cell_grown hb1 y1; replace y2 := cell_grown hb1 y2; replace y3 := cell_grown hb1 y3; replace x0 := cell_grown hb1 x0; replace x1 := cell_grown hb1 x1; replace x2 := cell_grown hb1 x2; replace hS0 := hS0.grown hb1; replace hC0 := hC0.grown hb1
  have HB := hid (hB0.trans (hb1.mono (by omega)))
  clear hb1 hB0 hS hCr
  cases th
  · go_wp2_with fail
    refine (awake_any w1).mono ?_
    rintro e w' ⟨rfl, hb⟩
    go_wp2
    go_ret
    exact ⟨rfl, HB.out.trans (hb.mono HB.out.size)⟩
  · have hth' : (n ≤ 60 ∧ m ≤ 8) ∧ (¬ faultM len long short due delay L C = 0 ∨ (takesOf len long short L).length ≤ 8) := by simpa using hth
    clear hth
    obtain ⟨⟨hn60, hm8⟩, hfew⟩ := hth'
    have hBd : Below w1.heap.size w1 w1.drew := (Below.refl _ _).drew
    by_cases hfz : faultM len long short due delay L C = 0
    · have h8 : (takesOf len long short L).length ≤ 8 := by omega
      obtain ⟨hs0, ho0⟩ := fault_ok hfz
      obtain ⟨hok, h40⟩ := sitErr_zero hs0
      have HFV := hid hfz
      have HOK := hid hok
      obtain ⟨ho1, hdueb, hdelb, -⟩ := offOk_parts ho0
      have hc5 : m ≤ 5 := by rw [← HC.out]; exact ho1.2
      have HBC : Hid (∀ i, i < m → 0 ≤ (C.getD i (0, 0, 0)).1 ∧ (C.getD i (0, 0, 0)).1 ≤ (C.getD i (0, 0, 0)).2.1 ∧ (C.getD i (0, 0, 0)).2.1 ≤ 20 ∧ 0 ≤ (C.getD i (0, 0, 0)).2.2 ∧ (C.getD i (0, 0, 0)).2.2 ≤ 36000) := hid (fun i hi => by
        have := crewOk_at (offOk_parts ho0).2.2.2 (i := i) (by rw [HC.out]; exact hi)
        generalize C.getD i (0, 0, 0) = x at this ⊢
        have h3' : (0 ≤ x.1 ∧ x.1 ≤ x.2.1) ∧ x.2.1 ≤ 20 ∧ 0 ≤ x.2.2 ∧ x.2.2 ≤ 36000 := by simpa [repOk, inB] using this
        omega)
      have HTB : Hid (∀ k, k < (takesOf len long short L).length → 0 ≤ ((takesOf len long short L).getD k (0, 0)).1 ∧ ((takesOf len long short L).getD k (0, 0)).1 < ((takesOf len long short L).getD k (0, 0)).2 ∧ ((takesOf len long short L).getD k (0, 0)).2 ≤ 36000) := hid (fun k hk => takesOf_bd hok hk)
      obtain ⟨-, hA0, -, -⟩ := takes_all hok
      have HA0 := hid hA0
      clear hfz hs0 ho0 hok ho1 hfew hA0
      go_wp2_with fail
      go_region_held3 (fun w' : World => w'.cell? ⟨w.heap.size, 0, none⟩ = some (.int .i64 len) ∧ w'.cell? ⟨w.heap.size, 1, none⟩ = some (.slice a n cap) ∧ w'.cell? ⟨w.heap.size, 2, none⟩ = some (.int .i64 long) ∧ w'.cell? ⟨w.heap.size, 3, none⟩ = some (.int .i64 short) ∧ w'.cell? ⟨w.heap.size + 1, 0, none⟩ = some (.slice ca m cc) ∧ w'.cell? ⟨w.heap.size + 1, 1, none⟩ = some (.int .i64 due) ∧ w'.cell? ⟨w.heap.size + 1, 2, none⟩ = some (.int .i64 delay)) (exact ⟨y0, y1, y2, y3, x0, x1, x2⟩) (first | (go_at_call 18; replace y0 := cell_grown hBd y0; replace y1 := cell_grown hBd y1; replace y2 := cell_grown hBd y2; replace y3 := cell_grown hBd y3; replace x0 := cell_grown hBd x0; replace x1 := cell_grown hBd x1; replace x2 := cell_grown hBd x2; replace hS0 := hS0.grown hBd; replace hC0 := hC0.grown hBd; replace HB := hid (HB.out.trans (hBd.mono HB.out.size)); refine (sitting_any L len long short n cap a _ HL.out hn60 hS0).mono ?_; rintro e w2 ⟨ra, rc, rfl, hSr, hb2⟩; replace y0 := cell_grown hb2 y0; replace y1 := cell_grown hb2 y1; replace y2 := cell_grown hb2 y2; replace y3 := cell_grown hb2 y3; replace x0 := cell_grown hb2 x0; replace x1 := cell_grown hb2 x1; replace x2 := cell_grown hb2 x2; replace hS0 := hS0.grown hb2; replace hC0 := hC0.grown hb2; replace HB := hid (HB.out.trans (hb2.mono HB.out.size))) | (go_at_call 20; refine (office_any C due delay m cc _ _ HC.out (by omega) hC0).mono ?_; rintro e w3 ⟨rb, rd, rfl, hCr3, hb3⟩; replace y0 := cell_grown hb3 y0; replace y1 := cell_grown hb3 y1; replace y2 := cell_grown hb3 y2; replace y3 := cell_grown hb3 y3; replace x0 := cell_grown hb3 x0; replace x1 := cell_grown hb3 x1; replace x2 := cell_grown hb3 x2; replace hS0 := hS0.grown hb3; replace hC0 := hC0.grown hb3; replace hSr := hSr.grown hb3; replace HB := hid (HB.out.trans (hb3.mono HB.out.size))) | (go_at_call 29; refine (rota_any L len long short due delay C n rc m rd ra rb _ HL.out hn hSr HC.out hm hCr3).mono ?_; intro e w10 hpost; obtain ⟨va, vn, vc, er, R, rfl, hb10, hRn, hRI, HRO⟩ := rota_one hpost HFV.out; replace y0 := cell_grown hb10 y0; replace y1 := cell_grown hb10 y1; replace y2 := cell_grown hb10 y2; replace y3 := cell_grown hb10 y3; replace x0 := cell_grown hb10 x0; replace x1 := cell_grown hb10 x1; replace x2 := cell_grown hb10 x2; replace hS0 := hS0.grown hb10; replace hC0 := hC0.grown hb10; replace HB := hid (HB.out.trans (hb10.mono HB.out.size))))
      clear hpost hb2 hb3 hb10 hSr hCr3 hBd
      have hBd : Below w10.heap.size w10 w10.drew := (Below.refl _ _).drew
      go_wp2_with fail
      go_region_held3 (fun w' : World => w'.cell? ⟨w.heap.size, 0, none⟩ = some (.int .i64 len) ∧ w'.cell? ⟨w.heap.size, 1, none⟩ = some (.slice a n cap) ∧ w'.cell? ⟨w.heap.size, 2, none⟩ = some (.int .i64 long) ∧ w'.cell? ⟨w.heap.size, 3, none⟩ = some (.int .i64 short) ∧ w'.cell? ⟨w.heap.size + 1, 0, none⟩ = some (.slice ca m cc) ∧ w'.cell? ⟨w.heap.size + 1, 1, none⟩ = some (.int .i64 due) ∧ w'.cell? ⟨w.heap.size + 1, 2, none⟩ = some (.int .i64 delay)) (exact ⟨y0, y1, y2, y3, x0, x1, x2⟩) (first | (go_at_call 18; replace y0 := cell_grown hBd y0; replace y1 := cell_grown hBd y1; replace y2 := cell_grown hBd y2; replace y3 := cell_grown hBd y3; replace x0 := cell_grown hBd x0; replace x1 := cell_grown hBd x1; replace x2 := cell_grown hBd x2; replace hS0 := hS0.grown hBd; replace hC0 := hC0.grown hBd; replace hRI := hRI.grown hBd; replace HB := hid (HB.out.trans (hBd.mono HB.out.size)); refine (sitting_any L len long short n cap a _ HL.out hn60 hS0).mono ?_; rintro e w2 ⟨ra, rc, rfl, hSr, hb2⟩; replace y0 := cell_grown hb2 y0; replace y1 := cell_grown hb2 y1; replace y2 := cell_grown hb2 y2; replace y3 := cell_grown hb2 y3; replace x0 := cell_grown hb2 x0; replace x1 := cell_grown hb2 x1; replace x2 := cell_grown hb2 x2; replace hS0 := hS0.grown hb2; replace hC0 := hC0.grown hb2; replace hRI := hRI.grown hb2; replace HB := hid (HB.out.trans (hb2.mono HB.out.size))) | (go_at_call 20; refine (office_any C due delay m cc _ _ HC.out (by omega) hC0).mono ?_; rintro e w3 ⟨rb, rd, rfl, hCr3, hb3⟩; replace y0 := cell_grown hb3 y0; replace y1 := cell_grown hb3 y1; replace y2 := cell_grown hb3 y2; replace y3 := cell_grown hb3 y3; replace x0 := cell_grown hb3 x0; replace x1 := cell_grown hb3 x1; replace x2 := cell_grown hb3 x2; replace hS0 := hS0.grown hb3; replace hC0 := hC0.grown hb3; replace hRI := hRI.grown hb3; replace hSr := hSr.grown hb3; replace HB := hid (HB.out.trans (hb3.mono HB.out.size))) | (go_at_call 30; refine (fails_any L len long short due delay C n rc m rd ra rb _ HL.out hn hSr HC.out hm hCr3).mono ?_; intro e w11 hpost; obtain ⟨fz, fe, rfl, hb11, HFO⟩ := fails_shape hpost HFV.out; replace y0 := cell_grown hb11 y0; replace y1 := cell_grown hb11 y1; replace y2 := cell_grown hb11 y2; replace y3 := cell_grown hb11 y3; replace x0 := cell_grown hb11 x0; replace x1 := cell_grown hb11 x1; replace x2 := cell_grown hb11 x2; replace hS0 := hS0.grown hb11; replace hC0 := hC0.grown hb11; replace hRI := hRI.grown hb11; replace HB := hid (HB.out.trans (hb11.mono HB.out.size))))
      clear hpost hb2 hb3 hb11 hSr hCr3 hBd
      go_wp2_with fail
      refine (faultL_any L C len long short due delay n cap m cc a ca w11 HL.out hn60 hS0 HC.out hm hC0).mono ?_
      rw [HFV.out]
      rintro e w12 ⟨rfl, hb12⟩
      replace y0 := cell_grown hb12 y0; replace y1 := cell_grown hb12 y1; replace y2 := cell_grown hb12 y2; replace y3 := cell_grown hb12 y3; replace x0 := cell_grown hb12 x0; replace x1 := cell_grown hb12 x1; replace x2 := cell_grown hb12 x2; replace hS0 := hS0.grown hb12; replace hC0 := hC0.grown hb12; replace hRI := hRI.grown hb12; replace HB := hid (HB.out.trans (hb12.mono HB.out.size))
      clear hb12
      go_wp2_with fail
      refine (takesR_own L len long short n cap a w12 HL.out hn60 hS0 HOK.out).mono ?_
      rintro e w13 ⟨ta, tc, rfl, -, hb13, hT, htc⟩
      replace y0 := cell_grown hb13 y0; replace y1 := cell_grown hb13 y1; replace y2 := cell_grown hb13 y2; replace y3 := cell_grown hb13 y3; replace x0 := cell_grown hb13 x0; replace x1 := cell_grown hb13 x1; replace x2 := cell_grown hb13 x2; replace hS0 := hS0.grown hb13; replace hC0 := hC0.grown hb13; replace hRI := hRI.grown hb13; replace HB := hid (HB.out.trans (hb13.mono HB.out.size))
      clear hb13
      obtain ⟨T, hTT⟩ : ∃ T, (takesOf len long short L) = T := ⟨_, rfl⟩
      rw [hTT] at hT htc HTB HA0 h8 h40 HRO HFO ⊢
      obtain ⟨tn, htn⟩ : ∃ tn, T.length = tn := ⟨_, rfl⟩
      have HTN := hid htn
      rw [htn] at htc HTB h8 h40 ⊢
      clear hTT htn
      go_wp2_with fail
      refine (rotaR_any C T due delay (-1) m cc tn tc ca ta HC.out hc5 HBC.out HTN.out (by omega) HTB.out hdueb hdelb tn [] 0 0 none w13 (by omega) rfl (fun j h => by omega) hC0 hT (fun i hi => by simp at hi)).mono ?_
      rintro e w14 ⟨hb14, ⟨xa, xn, xc, X, rfl, hX, hIX, hd⟩ | ⟨rfl, hd⟩⟩
      · replace y0 := cell_grown hb14 y0; replace y1 := cell_grown hb14 y1; replace y2 := cell_grown hb14 y2; replace y3 := cell_grown hb14 y3; replace x0 := cell_grown hb14 x0; replace x1 := cell_grown hb14 x1; replace x2 := cell_grown hb14 x2; replace hS0 := hS0.grown hb14; replace hC0 := hC0.grown hb14; replace hRI := hRI.grown hb14; replace HB := hid (HB.out.trans (hb14.mono HB.out.size))
        clear hb14
        rcases HRO.out with ⟨her, hbest⟩ | ⟨her, hRnil, rc0, hrc0, hdead0⟩
        · have hXR : X = R := by
            rw [← HC.out, ← HTN.out] at hd
            exact dfs_best HA0.out (by rw [HC.out]; exact hc5) hd hbest
          rcases HFO.out with ⟨hfz, hfe, _⟩ | ⟨q, _, _, _, _, hdq⟩
          · subst her hfz hfe hXR
            have hxv : xn = vn := by omega
            subst hxv
            have hx8 : xn ≤ 8 := by
              have h1 := hbest.2.1
              have h2 : (howOf due delay C T).tn = T.length := rfl
              have h3 := HTN.out
              omega
            clear hd hbest HRO HFO
            go_wp2_with fail
            refine (ints_any _ _ xn xn vc xc va xa w14 (by rw [List.length_map]; exact hX) (by rw [List.length_map]; exact hX) (by unfold maxLen; omega) (by unfold maxLen; omega) hRI hIX).mono ?_
            rw [decide_eq_true rfl]
            rintro e w15 ⟨rfl, hb15⟩
            replace y0 := cell_grown hb15 y0; replace y1 := cell_grown hb15 y1; replace y2 := cell_grown hb15 y2; replace y3 := cell_grown hb15 y3; replace x0 := cell_grown hb15 x0; replace x1 := cell_grown hb15 x1; replace x2 := cell_grown hb15 x2; replace hS0 := hS0.grown hb15; replace hC0 := hC0.grown hb15; replace HB := hid (HB.out.trans (hb15.mono HB.out.size))
            clear hb15 hRI hIX
            go_wp2_with fail
            refine (awake_any w15).mono ?_
            rintro e w' ⟨rfl, hb⟩
            go_wp2
            go_ret
            exact ⟨rfl, HB.out.trans (hb.mono HB.out.size)⟩
          · exact (best_alive hbest hdq).elim
        · exact (dfs_dead HA0.out (by rw [HC.out]; exact hc5) (by rw [HC.out, HTN.out]; exact hd) hdead0).elim
      · replace y0 := cell_grown hb14 y0; replace y1 := cell_grown hb14 y1; replace y2 := cell_grown hb14 y2; replace y3 := cell_grown hb14 y3; replace x0 := cell_grown hb14 x0; replace x1 := cell_grown hb14 x1; replace x2 := cell_grown hb14 x2; replace hS0 := hS0.grown hb14; replace hC0 := hC0.grown hb14; replace hRI := hRI.grown hb14; replace HB := hid (HB.out.trans (hb14.mono HB.out.size))
        replace hT := hT.grown hb14
        clear hb14
        rcases HRO.out with ⟨her, hbest⟩ | ⟨her, hRnil, rc0, hrc0, hdead0⟩
        · exact (dfs_no HA0.out (by rw [HC.out]; exact hc5) (by rw [HC.out, HTN.out]; exact hd) hbest.1 (by have := hbest.2.1; rw [Nat.zero_add] at this; exact this)).elim
        · rcases HFO.out with ⟨_, _, R', hbest⟩ | ⟨q, hfz, hfe, hq, hrp, hdq⟩
          · exact (best_alive hbest hdead0).elim
          · subst her hRnil hfz hfe
            have hv0 : vn = 0 := hRn.symm
            subst hv0
            clear hrc0 hdead0 hd HRO HFO hRI hRn
            have HQ := hid hq
            have HRP := hid hrp
            have HDQ := hid hdq
            clear hq hrp hdq
            go_wp2_with fail
            refine (failsR_any C T due delay m cc tn tc ca ta w14 HC.out hc5 HBC.out HTN.out (by omega) HTB.out hdueb hdelb hC0 hT htc).mono ?_
            rintro e w15 ⟨z, rfl, hb15, HZ⟩
            have hz : z = (q : Int) := by
              have h1 := HZ.out
              rw [← HTN.out] at h1
              exact fails_same HA0.out (by rw [HC.out]; exact hc5) HQ.out HRP.out HDQ.out h1
            subst hz
            replace y0 := cell_grown hb15 y0; replace y1 := cell_grown hb15 y1; replace y2 := cell_grown hb15 y2; replace y3 := cell_grown hb15 y3; replace x0 := cell_grown hb15 x0; replace x1 := cell_grown hb15 x1; replace x2 := cell_grown hb15 x2; replace hS0 := hS0.grown hb15; replace hC0 := hC0.grown hb15; replace HB := hid (HB.out.trans (hb15.mono HB.out.size))
            clear hb15 HZ
            go_wp2_with fail
            refine (awake_any w15).mono ?_
            rintro e w' ⟨rfl, hb⟩
            go_wp2
            go_ret
            exact ⟨rfl, HB.out.trans (hb.mono HB.out.size)⟩
    · obtain ⟨x, hx⟩ : ∃ x, faultM len long short due delay L C = x := ⟨_, rfl⟩
      rw [hx] at hfz
      have HFX : Hid (faultM len long short due delay L C = x ∧ x ≠ 0) := hid ⟨hx, hfz⟩
      have hfb : (x == 0) = false := by simpa using hfz
      clear hfew hx
      go_wp2_with fail
      go_region_held3 (fun w' : World => w'.cell? ⟨w.heap.size, 0, none⟩ = some (.int .i64 len) ∧ w'.cell? ⟨w.heap.size, 1, none⟩ = some (.slice a n cap) ∧ w'.cell? ⟨w.heap.size, 2, none⟩ = some (.int .i64 long) ∧ w'.cell? ⟨w.heap.size, 3, none⟩ = some (.int .i64 short) ∧ w'.cell? ⟨w.heap.size + 1, 0, none⟩ = some (.slice ca m cc) ∧ w'.cell? ⟨w.heap.size + 1, 1, none⟩ = some (.int .i64 due) ∧ w'.cell? ⟨w.heap.size + 1, 2, none⟩ = some (.int .i64 delay)) (exact ⟨y0, y1, y2, y3, x0, x1, x2⟩) (first | (go_at_call 18; replace y0 := cell_grown hBd y0; replace y1 := cell_grown hBd y1; replace y2 := cell_grown hBd y2; replace y3 := cell_grown hBd y3; replace x0 := cell_grown hBd x0; replace x1 := cell_grown hBd x1; replace x2 := cell_grown hBd x2; replace hS0 := hS0.grown hBd; replace hC0 := hC0.grown hBd; replace HB := hid (HB.out.trans (hBd.mono HB.out.size)); refine (sitting_any L len long short n cap a _ HL.out hn60 hS0).mono ?_; rintro e w2 ⟨ra, rc, rfl, hSr, hb2⟩; replace y0 := cell_grown hb2 y0; replace y1 := cell_grown hb2 y1; replace y2 := cell_grown hb2 y2; replace y3 := cell_grown hb2 y3; replace x0 := cell_grown hb2 x0; replace x1 := cell_grown hb2 x1; replace x2 := cell_grown hb2 x2; replace hS0 := hS0.grown hb2; replace hC0 := hC0.grown hb2; replace HB := hid (HB.out.trans (hb2.mono HB.out.size))) | (go_at_call 20; refine (office_any C due delay m cc _ _ HC.out (by omega) hC0).mono ?_; rintro e w3 ⟨rb, rd, rfl, hCr3, hb3⟩; replace y0 := cell_grown hb3 y0; replace y1 := cell_grown hb3 y1; replace y2 := cell_grown hb3 y2; replace y3 := cell_grown hb3 y3; replace x0 := cell_grown hb3 x0; replace x1 := cell_grown hb3 x1; replace x2 := cell_grown hb3 x2; replace hS0 := hS0.grown hb3; replace hC0 := hC0.grown hb3; replace hSr := hSr.grown hb3; replace HB := hid (HB.out.trans (hb3.mono HB.out.size))) | (go_at_call 29; refine (rota_any L len long short due delay C n rc m rd ra rb _ HL.out hn hSr HC.out hm hCr3).mono ?_; intro e w10 hpost; obtain ⟨rfl, hb10⟩ := rota_bad hpost HFX.out; replace y0 := cell_grown hb10 y0; replace y1 := cell_grown hb10 y1; replace y2 := cell_grown hb10 y2; replace y3 := cell_grown hb10 y3; replace x0 := cell_grown hb10 x0; replace x1 := cell_grown hb10 x1; replace x2 := cell_grown hb10 x2; replace hS0 := hS0.grown hb10; replace hC0 := hC0.grown hb10; replace HB := hid (HB.out.trans (hb10.mono HB.out.size))))
      clear hpost hb2 hb3 hb10 hSr hCr3 hBd
      have hBd : Below w10.heap.size w10 w10.drew := (Below.refl _ _).drew
      go_wp2_with fail
      go_region_held3 (fun w' : World => w'.cell? ⟨w.heap.size, 0, none⟩ = some (.int .i64 len) ∧ w'.cell? ⟨w.heap.size, 1, none⟩ = some (.slice a n cap) ∧ w'.cell? ⟨w.heap.size, 2, none⟩ = some (.int .i64 long) ∧ w'.cell? ⟨w.heap.size, 3, none⟩ = some (.int .i64 short) ∧ w'.cell? ⟨w.heap.size + 1, 0, none⟩ = some (.slice ca m cc) ∧ w'.cell? ⟨w.heap.size + 1, 1, none⟩ = some (.int .i64 due) ∧ w'.cell? ⟨w.heap.size + 1, 2, none⟩ = some (.int .i64 delay)) (exact ⟨y0, y1, y2, y3, x0, x1, x2⟩) (first | (go_at_call 18; replace y0 := cell_grown hBd y0; replace y1 := cell_grown hBd y1; replace y2 := cell_grown hBd y2; replace y3 := cell_grown hBd y3; replace x0 := cell_grown hBd x0; replace x1 := cell_grown hBd x1; replace x2 := cell_grown hBd x2; replace hS0 := hS0.grown hBd; replace hC0 := hC0.grown hBd; replace HB := hid (HB.out.trans (hBd.mono HB.out.size)); refine (sitting_any L len long short n cap a _ HL.out hn60 hS0).mono ?_; rintro e w2 ⟨ra, rc, rfl, hSr, hb2⟩; replace y0 := cell_grown hb2 y0; replace y1 := cell_grown hb2 y1; replace y2 := cell_grown hb2 y2; replace y3 := cell_grown hb2 y3; replace x0 := cell_grown hb2 x0; replace x1 := cell_grown hb2 x1; replace x2 := cell_grown hb2 x2; replace hS0 := hS0.grown hb2; replace hC0 := hC0.grown hb2; replace HB := hid (HB.out.trans (hb2.mono HB.out.size))) | (go_at_call 20; refine (office_any C due delay m cc _ _ HC.out (by omega) hC0).mono ?_; rintro e w3 ⟨rb, rd, rfl, hCr3, hb3⟩; replace y0 := cell_grown hb3 y0; replace y1 := cell_grown hb3 y1; replace y2 := cell_grown hb3 y2; replace y3 := cell_grown hb3 y3; replace x0 := cell_grown hb3 x0; replace x1 := cell_grown hb3 x1; replace x2 := cell_grown hb3 x2; replace hS0 := hS0.grown hb3; replace hC0 := hC0.grown hb3; replace hSr := hSr.grown hb3; replace HB := hid (HB.out.trans (hb3.mono HB.out.size))) | (go_at_call 30; refine (fails_any L len long short due delay C n rc m rd ra rb _ HL.out hn hSr HC.out hm hCr3).mono ?_; intro e w11 hpost; obtain ⟨rfl, hb11⟩ := fails_bad hpost HFX.out; replace y0 := cell_grown hb11 y0; replace y1 := cell_grown hb11 y1; replace y2 := cell_grown hb11 y2; replace y3 := cell_grown hb11 y3; replace x0 := cell_grown hb11 x0; replace x1 := cell_grown hb11 x1; replace x2 := cell_grown hb11 x2; replace hS0 := hS0.grown hb11; replace hC0 := hC0.grown hb11; replace HB := hid (HB.out.trans (hb11.mono HB.out.size))))
      clear hpost hb2 hb3 hb11 hSr hCr3 hBd
      go_wp2_with fail
      refine (faultL_any L C len long short due delay n cap m cc a ca w11 HL.out hn60 hS0 HC.out hm hC0).mono ?_
      rw [HFX.out.1]
      rintro e w12 ⟨rfl, hb12⟩
      replace y0 := cell_grown hb12 y0; replace y1 := cell_grown hb12 y1; replace y2 := cell_grown hb12 y2; replace y3 := cell_grown hb12 y3; replace x0 := cell_grown hb12 x0; replace x1 := cell_grown hb12 x1; replace x2 := cell_grown hb12 x2; replace hS0 := hS0.grown hb12; replace hC0 := hC0.grown hb12; replace HB := hid (HB.out.trans (hb12.mono HB.out.size))
      clear hb12
      go_wp2_with fail
      refine (awake_any w12).mono ?_
      rintro e w' ⟨rfl, hb⟩
      go_wp2
      go_ret
      exact ⟨rfl, HB.out.trans (hb.mono HB.out.size)⟩

end Go.Proofs.Ytgapbaelifcifaa
