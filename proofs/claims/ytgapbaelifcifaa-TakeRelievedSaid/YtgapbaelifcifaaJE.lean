/- The law TakeRelieved: its walk. -/
import Derived.Test.YtgapbaelifcifaaJD
import Derived.Test.YtgapbaelifcifaaGC
import Derived.Sort.AtCall
namespace Go.Proofs.Ytgapbaelifcifaa
open Go.RowKit

theorem ints_tail {W : World} {bl ol lc : Nat} {Z : List Int} (h : Ints W (some ⟨bl, ol, none⟩) Z) (hc : Z.length ≤ lc) : Ints W (if lc = 1 then some ⟨bl, ol, none⟩ else some ⟨bl, ol + 1, none⟩) (Z.drop 1) := by
  intro i hi
  rw [List.length_drop] at hi
  obtain ⟨b, off, e, c⟩ := h (i + 1) (by omega)
  simp only [Option.some.injEq, Addr.mk.injEq, and_true] at e
  obtain ⟨rfl, rfl⟩ := e
  rw [if_neg (by omega)]
  refine ⟨bl, ol + 1, rfl, ?_⟩
  rw [show ol + 1 + i = ol + (i + 1) by omega, c]
  simp [List.getD_eq_getElem?_getD, List.getElem?_drop, Nat.add_comm]

set_option maxRecDepth 100000 in
set_option maxHeartbeats 40000000 in
theorem takeRelieved_any (L : List (Int × Int)) (len long short : Int) (n cap : Nat) (a : Option Addr) (C : List (Int × Int × Int)) (due delay : Int) (m cc : Nat) (ca : Option Addr) (who word : Int) (w : World)
    (hL : L.length = n) (hn : n ≤ maxLen) (hS : Spans w a L) (hC : C.length = m) (hm : m ≤ maxLen) (hCr : Crew w ca C) (hwho : 0 ≤ who ∧ who ≤ 255) (hword : 0 ≤ word ∧ word ≤ 65535) :
    Calls Try.prog 14 #[.agg #[.int .i64 len, .slice a n cap, .int .i64 long, .int .i64 short], .agg #[.slice ca m cc, .int .i64 due, .int .i64 delay], .int .u8 who, .int .u16 word] w fun e w' => e = .returned (.bool true) ∧ Below w.heap.size w w' := by
  have hn' := hn
  have hm' := hm
  unfold maxLen at hn' hm'
  have HL := hid hL
  have HC := hid hC
  clear hL hC
  go_enter Try.func14, Try.ntmps14
  go_wp2_with fail
  obtain ⟨W0, hW0⟩ : ∃ W0, W0 = (w.alloc (.cells #[.int .i64 len, .slice a n cap, .int .i64 long, .int .i64 short] 24)).alloc (.cells #[.slice ca m cc, .int .i64 due, .int .i64 delay] 27) := ⟨_, rfl⟩
  have hB0 : Below w.heap.size w W0 := by rw [hW0]; exact ((Below.refl _ w).alloc (Nat.le_refl _) _).alloc (by simp) _
  have z0 : W0.heap.size = w.heap.size + 2 := by rw [hW0]; simp
  have y0 : W0.cell? ⟨w.heap.size, 0, none⟩ = some (.int .i64 len) := by rw [hW0]; simp [go_sem]
  have y1 : W0.cell? ⟨w.heap.size, 1, none⟩ = some (.slice a n cap) := by rw [hW0]; simp [go_sem]
  have y2 : W0.cell? ⟨w.heap.size, 2, none⟩ = some (.int .i64 long) := by rw [hW0]; simp [go_sem]
  have y3 : W0.cell? ⟨w.heap.size, 3, none⟩ = some (.int .i64 short) := by rw [hW0]; simp [go_sem]
  have x0 : W0.cell? ⟨w.heap.size + 1, 0, none⟩ = some (.slice ca m cc) := by rw [hW0]; simp [go_sem]
  have x1 : W0.cell? ⟨w.heap.size + 1, 1, none⟩ = some (.int .i64 due) := by rw [hW0]; simp [go_sem]
  have x2 : W0.cell? ⟨w.heap.size + 1, 2, none⟩ = some (.int .i64 delay) := by rw [hW0]; simp [go_sem]
  rw [← hW0]
  clear hW0
  have hS0 := hS.grown hB0
  have hC0 := hCr.grown hB0
  refine (ready_any L C len long short due delay n cap m cc a ca W0 HL.out hn hS0 HC.out hm hC0).mono ?_
  obtain ⟨th, hth⟩ : ∃ b, ((decide (n ≤ 60) && decide (m ≤ 8)) && decide (faultM len long short due delay L C = 0)) = b := ⟨_, rfl⟩
  rw [hth]
  rintro e w1 ⟨rfl, hb1⟩
  replace y0 := cell_grown hb1 y0; replace y1 := cell_grown hb1 y1; replace y2 := cell_grown hb1 y2; replace y3 := cell_grown hb1 y3; replace x0 := cell_grown hb1 x0; replace x1 := cell_grown hb1 x1; replace x2 := cell_grown hb1 x2; replace hS0 := hS0.grown hb1; replace hC0 := hC0.grown hb1
  have HB := hid (hB0.trans (hb1.mono (by omega)))
  clear hb1 hB0 hS hCr
  cases th
  · go_wp2_with fail
    refine (awake_any w1).mono ?_
    rintro e w' ⟨rfl, hb⟩
    go_wp2
    go_ret
    exact ⟨rfl, HB.out.trans (hb.mono HB.out.size)⟩
  · have hth' : (n ≤ 60 ∧ m ≤ 8) ∧ faultM len long short due delay L C = 0 := by simpa using hth
    clear hth
    obtain ⟨⟨hn60, hm8⟩, hfz⟩ := hth'
    obtain ⟨hs0, ho0⟩ := fault_ok hfz
    obtain ⟨hok, h40⟩ := sitErr_zero hs0
    have HFV := hid hfz
    have HOK := hid hok
    obtain ⟨ho1, hdueb, hdelb, -⟩ := offOk_parts ho0
    have hlen : 1 ≤ len ∧ len ≤ 36000 := by have := sitOk_parts hok; omega
    have hc5 : m ≤ 5 := by rw [← HC.out]; exact ho1.2
    have hc1 : 1 ≤ m := by rw [← HC.out]; exact ho1.1
    have HBC : Hid (∀ i, i < m → 0 ≤ (C.getD i (0, 0, 0)).1 ∧ (C.getD i (0, 0, 0)).1 ≤ (C.getD i (0, 0, 0)).2.1 ∧ (C.getD i (0, 0, 0)).2.1 ≤ 20 ∧ 0 ≤ (C.getD i (0, 0, 0)).2.2 ∧ (C.getD i (0, 0, 0)).2.2 ≤ 36000) := hid (fun i hi => by
      have := crewOk_at (offOk_parts ho0).2.2.2 (i := i) (by rw [HC.out]; exact hi)
      generalize C.getD i (0, 0, 0) = x at this ⊢
      have h3' : (0 ≤ x.1 ∧ x.1 ≤ x.2.1) ∧ x.2.1 ≤ 20 ∧ 0 ≤ x.2.2 ∧ x.2.2 ≤ 36000 := by simpa [repOk, inB] using this
      omega)
    clear hfz hs0 ho0 hok ho1
    have hBd : Below w1.heap.size w1 w1.drew := (Below.refl _ _).drew
    go_wp2_with fail
    go_region_held3 (fun w' : World => w'.cell? ⟨w.heap.size, 0, none⟩ = some (.int .i64 len) ∧ w'.cell? ⟨w.heap.size, 1, none⟩ = some (.slice a n cap) ∧ w'.cell? ⟨w.heap.size, 2, none⟩ = some (.int .i64 long) ∧ w'.cell? ⟨w.heap.size, 3, none⟩ = some (.int .i64 short) ∧ w'.cell? ⟨w.heap.size + 1, 0, none⟩ = some (.slice ca m cc) ∧ w'.cell? ⟨w.heap.size + 1, 1, none⟩ = some (.int .i64 due) ∧ w'.cell? ⟨w.heap.size + 1, 2, none⟩ = some (.int .i64 delay)) (exact ⟨y0, y1, y2, y3, x0, x1, x2⟩) (first | (go_at_call 18; replace y0 := cell_grown hBd y0; replace y1 := cell_grown hBd y1; replace y2 := cell_grown hBd y2; replace y3 := cell_grown hBd y3; replace x0 := cell_grown hBd x0; replace x1 := cell_grown hBd x1; replace x2 := cell_grown hBd x2; replace hS0 := hS0.grown hBd; replace hC0 := hC0.grown hBd; replace HB := hid (HB.out.trans (hBd.mono HB.out.size)); refine (sitting_any L len long short n cap a _ HL.out hn60 hS0).mono ?_; rintro e w2 ⟨ra, rc, rfl, hSr, hb2⟩; replace y0 := cell_grown hb2 y0; replace y1 := cell_grown hb2 y1; replace y2 := cell_grown hb2 y2; replace y3 := cell_grown hb2 y3; replace x0 := cell_grown hb2 x0; replace x1 := cell_grown hb2 x1; replace x2 := cell_grown hb2 x2; replace hS0 := hS0.grown hb2; replace hC0 := hC0.grown hb2; replace HB := hid (HB.out.trans (hb2.mono HB.out.size))) | (go_at_call 20; refine (office_any C due delay m cc _ _ HC.out (by omega) hC0).mono ?_; rintro e w3 ⟨rb, rd, rfl, hCr3, hb3⟩; replace y0 := cell_grown hb3 y0; replace y1 := cell_grown hb3 y1; replace y2 := cell_grown hb3 y2; replace y3 := cell_grown hb3 y3; replace x0 := cell_grown hb3 x0; replace x1 := cell_grown hb3 x1; replace x2 := cell_grown hb3 x2; replace hS0 := hS0.grown hb3; replace hC0 := hC0.grown hb3; replace hSr := hSr.grown hb3; replace HB := hid (HB.out.trans (hb3.mono HB.out.size))) | (go_at_call 29; refine (rota_any L len long short due delay C n rc m rd ra rb _ HL.out hn hSr HC.out hm hCr3).mono ?_; intro e w10 hpost; obtain ⟨va, vn, vc, er, R, rfl, hb10, hRn, hRI, HRO⟩ := rota_one hpost HFV.out; replace y0 := cell_grown hb10 y0; replace y1 := cell_grown hb10 y1; replace y2 := cell_grown hb10 y2; replace y3 := cell_grown hb10 y3; replace x0 := cell_grown hb10 x0; replace x1 := cell_grown hb10 x1; replace x2 := cell_grown hb10 x2; replace hS0 := hS0.grown hb10; replace hC0 := hC0.grown hb10; replace HB := hid (HB.out.trans (hb10.mono HB.out.size))))
    clear hpost hb2 hb3 hb10 hSr hCr3 hBd
    rcases HRO with ⟨her, hbest⟩ | ⟨her, hRnil, _⟩
    · subst her
      obtain ⟨-, hA0, -, -⟩ := takes_all HOK.out
      have hbl : R.length = (takesOf len long short L).length := by
        have := hbest.2.1
        rw [Nat.zero_add] at this
        exact this
      have HRB := hid hbest
      have hTB : Hid (∀ k, k < (takesOf len long short L).length → 0 ≤ ((takesOf len long short L).getD k (0, 0)).1 ∧ ((takesOf len long short L).getD k (0, 0)).1 < ((takesOf len long short L).getD k (0, 0)).2 ∧ ((takesOf len long short L).getD k (0, 0)).2 ≤ 36000) := hid (fun k hk => takesOf_bd HOK.out hk)
      have hpz : proveM len long short due delay L C (R.map fun r : Nat => (r : Int)) = true := path_proves HFV.out hbl hbest.1
      have HPZ := hid hpz
      obtain ⟨Z, hZ⟩ : ∃ Z, (R.map fun r : Nat => (r : Int)) = Z := ⟨_, rfl⟩
      have HZR := hid hZ
      rw [hZ] at hRI
      have HZl : Hid (Z.length = vn) := hid (by rw [← hZ, List.length_map, hRn])
      have HTL : Hid ((takesOf len long short L).length = vn) := hid (by rw [← hbl, hRn])
      have HRn := hid hRn
      rw [← hbl, hRn] at h40
      clear hZ hbest hbl hRn hpz hA0
      obtain ⟨rel, hrel⟩ : ∃ rel : Nat, who % (m : Int) = (rel : Int) := ⟨(who % (m : Int)).toNat, by have := Int.emod_nonneg who (show (m : Int) ≠ 0 by omega); omega⟩
      have hrell : (rel : Int) < m := by rw [← hrel]; exact Int.emod_lt_of_pos _ (by omega)
      have htm : who.tmod (m : Int) = (rel : Int) := by rw [Int.tmod_eq_emod_of_nonneg hwho.1]; exact hrel
      have hw8 : IntKind.i64.wrap who = who := by rw [IntKind.wrap_i64]; omega
      have hwt : IntKind.i64.wrap (who.tmod (m : Int)) = (rel : Int) := by rw [htm, IntKind.wrap_i64]; omega
      have hmz : ¬ (m : Int) = 0 := by omega
      have hmz2 : ((m : Int) == 0) = false := by simp; omega
      obtain ⟨sec, hsec⟩ : ∃ sec, word % (len + 1) = sec := ⟨_, rfl⟩
      have hsecb : 0 ≤ sec ∧ sec ≤ len := by
        have h1 := Int.emod_nonneg word (show len + 1 ≠ 0 by omega)
        have h2 := Int.emod_lt_of_pos word (show 0 < len + 1 by omega)
        omega
      have htw : word.tmod (len + 1) = sec := by rw [Int.tmod_eq_emod_of_nonneg hword.1]; exact hsec
      have hwl : IntKind.i64.wrap (len + 1) = len + 1 := by rw [IntKind.wrap_i64]; omega
      have hw16 : IntKind.i64.wrap word = word := by rw [IntKind.wrap_i64]; omega
      have hwts : IntKind.i64.wrap (word.tmod (len + 1)) = sec := by rw [htw, IntKind.wrap_i64]; omega
      have hlz : ¬ len + 1 = 0 := by omega
      have hlz2 : (len + 1 == 0) = false := by simp; omega
      clear hrel hsec
      go_wp2_with fail
      go_big_quiet (fail)
      have hBq : Below w10.heap.size w10 (w10.drewN nq) := below_drewN (Below.refl _ _) _
      obtain ⟨w15, hw15⟩ : ∃ W, w10.drewN nq = W := ⟨_, rfl⟩
      rw [hw15] at hBq ⊢
      clear hw15
      replace y0 := cell_grown hBq y0; replace y1 := cell_grown hBq y1; replace y2 := cell_grown hBq y2; replace y3 := cell_grown hBq y3; replace x0 := cell_grown hBq x0; replace x1 := cell_grown hBq x1; replace x2 := cell_grown hBq x2; replace hS0 := hS0.grown hBq; replace hC0 := hC0.grown hBq; replace hRI := hRI.grown hBq; replace HB := hid (HB.out.trans (hBq.mono HB.out.size))
      clear hBq htm hw8 hwt hmz hmz2 htw hwl hw16 hwts hlz hlz2
      have HRZ : Hid (reliefErr len long short due delay L C (R.map fun r : Nat => (r : Int)) (rel : Int) sec = 0) := hid (relief_zero HFV.out HPZ.out (by rw [HC.out]; omega) hsecb)
      have hBd : Below w15.heap.size w15 w15.drew := (Below.refl _ _).drew
      go_wp2_with fail
      go_region_held3 (fun w' : World => w'.cell? ⟨w.heap.size, 0, none⟩ = some (.int .i64 len) ∧ w'.cell? ⟨w.heap.size, 1, none⟩ = some (.slice a n cap) ∧ w'.cell? ⟨w.heap.size, 2, none⟩ = some (.int .i64 long) ∧ w'.cell? ⟨w.heap.size, 3, none⟩ = some (.int .i64 short) ∧ w'.cell? ⟨w.heap.size + 1, 0, none⟩ = some (.slice ca m cc) ∧ w'.cell? ⟨w.heap.size + 1, 1, none⟩ = some (.int .i64 due) ∧ w'.cell? ⟨w.heap.size + 1, 2, none⟩ = some (.int .i64 delay)) (exact ⟨y0, y1, y2, y3, x0, x1, x2⟩) (first | (go_at_call 18; replace y0 := cell_grown hBd y0; replace y1 := cell_grown hBd y1; replace y2 := cell_grown hBd y2; replace y3 := cell_grown hBd y3; replace x0 := cell_grown hBd x0; replace x1 := cell_grown hBd x1; replace x2 := cell_grown hBd x2; replace hS0 := hS0.grown hBd; replace hC0 := hC0.grown hBd; replace hRI := hRI.grown hBd; replace HB := hid (HB.out.trans (hBd.mono HB.out.size)); refine (sitting_any L len long short n cap a _ HL.out hn60 hS0).mono ?_; rintro e w2 ⟨ra, rc, rfl, hSr, hb2⟩; replace y0 := cell_grown hb2 y0; replace y1 := cell_grown hb2 y1; replace y2 := cell_grown hb2 y2; replace y3 := cell_grown hb2 y3; replace x0 := cell_grown hb2 x0; replace x1 := cell_grown hb2 x1; replace x2 := cell_grown hb2 x2; replace hS0 := hS0.grown hb2; replace hC0 := hC0.grown hb2; replace hRI := hRI.grown hb2; replace HB := hid (HB.out.trans (hb2.mono HB.out.size))) | (go_at_call 20; refine (office_any C due delay m cc _ _ HC.out (by omega) hC0).mono ?_; rintro e w3 ⟨rb, rd, rfl, hCr3, hb3⟩; replace y0 := cell_grown hb3 y0; replace y1 := cell_grown hb3 y1; replace y2 := cell_grown hb3 y2; replace y3 := cell_grown hb3 y3; replace x0 := cell_grown hb3 x0; replace x1 := cell_grown hb3 x1; replace x2 := cell_grown hb3 x2; replace hS0 := hS0.grown hb3; replace hC0 := hC0.grown hb3; replace hRI := hRI.grown hb3; replace hSr := hSr.grown hb3; replace HB := hid (HB.out.trans (hb3.mono HB.out.size))) | (go_at_call 35; refine (list_free Z vn vc va _ HZl.out (by omega) hRI).mono ?_; rintro e w5 ⟨vz, rfl, hownz, hb5⟩; obtain ⟨rz2, rzc2, rfl⟩ := owns_shape hownz; have hIz2 := ints_of_owns1 HZl.out hownz; replace y0 := cell_grown hb5 y0; replace y1 := cell_grown hb5 y1; replace y2 := cell_grown hb5 y2; replace y3 := cell_grown hb5 y3; replace x0 := cell_grown hb5 x0; replace x1 := cell_grown hb5 x1; replace x2 := cell_grown hb5 x2; replace hS0 := hS0.grown hb5; replace hC0 := hC0.grown hb5; replace hSr := hSr.grown hb5; replace hCr3 := hCr3.grown hb5; replace hRI := hRI.grown hb5; replace HB := hid (HB.out.trans (hb5.mono HB.out.size))) | (go_at_call 43; refine (relieve_any L len long short due delay C Z (rel : Int) sec n rc m rd vn rzc2 ra rb rz2 _ HL.out hn hSr HC.out hm hCr3 HZl.out (by unfold maxLen; omega) hIz2).mono ?_; intro e w20 hpost; rw [← HZR.out] at hpost; obtain ⟨hb20, aa, oa, an, ac, on, oc, er2, A, O, rfl, hAl, hOl, hAI, hOI, HREL⟩ := relief_one hpost HRZ.out; replace y0 := cell_grown hb20 y0; replace y1 := cell_grown hb20 y1; replace y2 := cell_grown hb20 y2; replace y3 := cell_grown hb20 y3; replace x0 := cell_grown hb20 x0; replace x1 := cell_grown hb20 x1; replace x2 := cell_grown hb20 x2; replace hS0 := hS0.grown hb20; replace hC0 := hC0.grown hb20; replace hRI := hRI.grown hb20; replace HB := hid (HB.out.trans (hb20.mono HB.out.size))))
      clear hpost hb2 hb3 hb5 hb20 hSr hCr3 hBd hIz2 hownz HRZ HPZ
      rcases HREL.out with her2 | ⟨her2, hbest, s, hsd, hOO⟩
      · subst her2
        clear hAI hOI
        go_wp2_with fail
        refine (awake_any w20).mono ?_
        rintro e w' ⟨rfl, hb⟩
        go_wp2
        go_ret
        exact ⟨rfl, HB.out.trans (hb.mono HB.out.size)⟩

      · subst her2
        obtain ⟨-, hAl2, hpa, hA1, hA2⟩ := relief_parts HFV.out HRB.out hbest
        obtain ⟨AZ, hAZ⟩ : ∃ Z, (A.map fun r : Nat => (r : Int)) = Z := ⟨_, rfl⟩
        have HAZR := hid hAZ
        have HPV : Hid (proveM len long short due delay L C AZ = true) := hid (by rw [← hAZ]; exact hpa)
        have hanv : an = vn := by rw [← hAl, hAl2, HTL.out]
        subst hanv
        have HAZ : Hid (AZ.length = an) := hid (by rw [← hAZ, List.length_map, hAl])
        rw [hAZ] at hAI
        obtain ⟨OZ, hOZ⟩ : ∃ Z, (O.map fun r : Nat => (r : Int)) = Z := ⟨_, rfl⟩
        have HOZR := hid hOZ
        rw [hOZ] at hOI
        have HOZ : Hid (OZ.length = on) := hid (by rw [← hOZ, List.length_map, hOl])
        have HA1 := hid hA1
        have HA2 := hid hA2
        have HAl := hid hAl
        have HOO := hid hOO
        have HSD := hid hsd
        have hon : on ≤ an := by
          rw [← hOl, hOO, ← HTL.out]
          exact openM_le ..
        clear hAl2 hpa hA1 hA2 hAZ hOZ hAl hOO hsd hbest hOl HREL
        go_wp2_with fail
        refine (sitting_any L len long short n cap a w20 HL.out hn60 hS0).mono ?_
        rintro e w21 ⟨ra, rc, rfl, hSr, hb21⟩
        replace y0 := cell_grown hb21 y0; replace y1 := cell_grown hb21 y1; replace y2 := cell_grown hb21 y2; replace y3 := cell_grown hb21 y3; replace x0 := cell_grown hb21 x0; replace x1 := cell_grown hb21 x1; replace x2 := cell_grown hb21 x2; replace hS0 := hS0.grown hb21; replace hC0 := hC0.grown hb21; replace hRI := hRI.grown hb21; replace hAI := hAI.grown hb21; replace hOI := hOI.grown hb21; replace HB := hid (HB.out.trans (hb21.mono HB.out.size))
        clear hb21
        go_wp2_with fail
        refine (takes_any L len long short n rc ra w21 HL.out hn hSr).mono ?_
        intro e w22 h
        rcases cutPost_cases h with ⟨h1, _⟩ | ⟨_, h2, _⟩ | ⟨ta, tc, vn2, hvn2, _, _, hb22, rfl, hT, _⟩
        · rw [HOK.out] at h1; simp at h1
        · rw [HTL.out] at h2; omega
        rw [HTL.out] at hvn2
        subst hvn2
        replace y0 := cell_grown hb22 y0; replace y1 := cell_grown hb22 y1; replace y2 := cell_grown hb22 y2; replace y3 := cell_grown hb22 y3; replace x0 := cell_grown hb22 x0; replace x1 := cell_grown hb22 x1; replace x2 := cell_grown hb22 x2; replace hS0 := hS0.grown hb22; replace hC0 := hC0.grown hb22; replace hRI := hRI.grown hb22; replace hAI := hAI.grown hb22; replace hOI := hOI.grown hb22; replace HB := hid (HB.out.trans (hb22.mono HB.out.size))
        clear hb22 h hSr
        have hBd : Below w22.heap.size w22 w22.drew := (Below.refl _ _).drew
        go_wp2_with fail
        go_region_held3 (fun w' : World => w'.cell? ⟨w.heap.size, 0, none⟩ = some (.int .i64 len) ∧ w'.cell? ⟨w.heap.size, 1, none⟩ = some (.slice a n cap) ∧ w'.cell? ⟨w.heap.size, 2, none⟩ = some (.int .i64 long) ∧ w'.cell? ⟨w.heap.size, 3, none⟩ = some (.int .i64 short) ∧ w'.cell? ⟨w.heap.size + 1, 0, none⟩ = some (.slice ca m cc) ∧ w'.cell? ⟨w.heap.size + 1, 1, none⟩ = some (.int .i64 due) ∧ w'.cell? ⟨w.heap.size + 1, 2, none⟩ = some (.int .i64 delay)) (exact ⟨y0, y1, y2, y3, x0, x1, x2⟩) (first | (go_at_call 18; replace y0 := cell_grown hBd y0; replace y1 := cell_grown hBd y1; replace y2 := cell_grown hBd y2; replace y3 := cell_grown hBd y3; replace x0 := cell_grown hBd x0; replace x1 := cell_grown hBd x1; replace x2 := cell_grown hBd x2; replace hS0 := hS0.grown hBd; replace hC0 := hC0.grown hBd; replace hRI := hRI.grown hBd; replace hAI := hAI.grown hBd; replace hOI := hOI.grown hBd; replace hT := hT.grown hBd; replace HB := hid (HB.out.trans (hBd.mono HB.out.size)); refine (sitting_any L len long short n cap a _ HL.out hn60 hS0).mono ?_; rintro e w2 ⟨ra, rc, rfl, hSr, hb2⟩; replace y0 := cell_grown hb2 y0; replace y1 := cell_grown hb2 y1; replace y2 := cell_grown hb2 y2; replace y3 := cell_grown hb2 y3; replace x0 := cell_grown hb2 x0; replace x1 := cell_grown hb2 x1; replace x2 := cell_grown hb2 x2; replace hS0 := hS0.grown hb2; replace hC0 := hC0.grown hb2; replace hRI := hRI.grown hb2; replace hAI := hAI.grown hb2; replace hOI := hOI.grown hb2; replace hT := hT.grown hb2; replace HB := hid (HB.out.trans (hb2.mono HB.out.size))) | (go_at_call 20; refine (office_any C due delay m cc _ _ HC.out (by omega) hC0).mono ?_; rintro e w3 ⟨rb, rd, rfl, hCr3, hb3⟩; replace y0 := cell_grown hb3 y0; replace y1 := cell_grown hb3 y1; replace y2 := cell_grown hb3 y2; replace y3 := cell_grown hb3 y3; replace x0 := cell_grown hb3 x0; replace x1 := cell_grown hb3 x1; replace x2 := cell_grown hb3 x2; replace hS0 := hS0.grown hb3; replace hC0 := hC0.grown hb3; replace hRI := hRI.grown hb3; replace hAI := hAI.grown hb3; replace hOI := hOI.grown hb3; replace hT := hT.grown hb3; replace hSr := hSr.grown hb3; replace HB := hid (HB.out.trans (hb3.mono HB.out.size))) | (go_at_call 35; refine (list_free AZ an ac aa _ HAZ.out (by omega) hAI).mono ?_; rintro e w5 ⟨vz, rfl, hownz, hb5⟩; obtain ⟨rz2, rzc2, rfl⟩ := owns_shape hownz; have hIz2 := ints_of_owns1 HAZ.out hownz; replace y0 := cell_grown hb5 y0; replace y1 := cell_grown hb5 y1; replace y2 := cell_grown hb5 y2; replace y3 := cell_grown hb5 y3; replace x0 := cell_grown hb5 x0; replace x1 := cell_grown hb5 x1; replace x2 := cell_grown hb5 x2; replace hS0 := hS0.grown hb5; replace hC0 := hC0.grown hb5; replace hSr := hSr.grown hb5; replace hCr3 := hCr3.grown hb5; replace hRI := hRI.grown hb5; replace hAI := hAI.grown hb5; replace hOI := hOI.grown hb5; replace hT := hT.grown hb5; replace HB := hid (HB.out.trans (hb5.mono HB.out.size))) | (go_at_call 38; refine (prove_any L len long short due delay C AZ n rc m rd an rzc2 ra rb rz2 _ HL.out hn hSr HC.out hm hCr3 HAZ.out (by unfold maxLen; omega) hIz2).mono ?_; rw [HPV.out]; rintro e w6 ⟨rfl, hb6⟩; replace y0 := cell_grown hb6 y0; replace y1 := cell_grown hb6 y1; replace y2 := cell_grown hb6 y2; replace y3 := cell_grown hb6 y3; replace x0 := cell_grown hb6 x0; replace x1 := cell_grown hb6 x1; replace x2 := cell_grown hb6 x2; replace hS0 := hS0.grown hb6; replace hC0 := hC0.grown hb6; replace hRI := hRI.grown hb6; replace hAI := hAI.grown hb6; replace hOI := hOI.grown hb6; replace hT := hT.grown hb6; replace HB := hid (HB.out.trans (hb6.mono HB.out.size))))
        clear hb2 hb3 hb5 hb6 hSr hCr3 hBd hIz2 hownz HPV
        go_wp2_with fail
        refine (list_free OZ on oc oa w6 HOZ.out (by omega) hOI).mono ?_
        rintro e w30 ⟨vz, rfl, hownz, hb30⟩
        obtain ⟨la, lc, rfl⟩ := owns_shape hownz
        have hLI := ints_of_owns1 HOZ.out hownz
        have hLC := (owns_cap hownz).1
        replace y0 := cell_grown hb30 y0; replace y1 := cell_grown hb30 y1; replace y2 := cell_grown hb30 y2; replace y3 := cell_grown hb30 y3; replace x0 := cell_grown hb30 x0; replace x1 := cell_grown hb30 x1; replace x2 := cell_grown hb30 x2; replace hS0 := hS0.grown hb30; replace hC0 := hC0.grown hb30; replace hRI := hRI.grown hb30; replace hAI := hAI.grown hb30; replace hT := hT.grown hb30; replace HB := hid (HB.out.trans (hb30.mono HB.out.size))
        clear hb30 hownz hOI
        obtain ⟨T, hTT⟩ : ∃ T, (takesOf len long short L) = T := ⟨_, rfl⟩
        obtain ⟨cnt, hcnt⟩ : ∃ cnt : Nat → Nat, (fun k => (openM s C T R rel sec k).length) = cnt := ⟨_, rfl⟩
        have HON : Hid (∀ k, k < an → (isOpen s C T R rel sec k = true → cnt k < on ∧ OZ.getD (cnt k) 0 = (k : Int) ∧ cnt (k + 1) = cnt k + 1) ∧ (isOpen s C T R rel sec k = false → cnt (k + 1) = cnt k)) := hid (by
          intro k hk
          rw [← hcnt]
          dsimp only
          refine ⟨fun h => ?_, fun h => by rw [openM_not h]⟩
          obtain ⟨g1, g2, g3⟩ := openM_at hk h
          have hOe : O = openM s C T R rel sec an := by rw [HOO.out, hTT, ← hTT, HTL.out]
          rw [← hOe] at g1 g2
          have hOl : O.length = on := by have := HOZ.out; rw [← HOZR.out, List.length_map] at this; exact this
          refine ⟨by omega, ?_, g3⟩
          rw [← HOZR.out, List.getD_eq_getElem?_getD, List.getElem?_map, List.getElem?_eq_getElem g1]
          rw [List.getD_eq_getElem?_getD, List.getElem?_eq_getElem g1, Option.getD_some] at g2
          simp only [Option.map_some, Option.getD_some]
          rw [g2])
        have HC0 : Hid (cnt 0 = 0) := hid (by rw [← hcnt]; rfl)
        have HCN : Hid (cnt an = on) := hid (by
          rw [← hcnt]
          dsimp only
          have hOl : O.length = on := by have := HOZ.out; rw [← HOZR.out, List.length_map] at this; exact this
          rw [← hOl, HOO.out, hTT, ← hTT, HTL.out])
        have HCL : Hid (∀ k, k ≤ an → cnt k ≤ on) := hid (by
          intro k hk
          rw [← HCN.out, ← hcnt]
          dsimp only
          exact openM_mono hk)
        have HTL2 : Hid (T.length = an) := hid (by rw [← hTT]; exact HTL.out)
        rw [hTT] at hT hTB HA1 HA2
        clear hTT hcnt HTL HOO HOZR HRB
        go_wp2_with fail
        go_loopw [18, 19] (fun v i wr => ∃ k : Nat, k ≤ an ∧ i = .int .i64 k ∧ (∃ (la' : Option Addr) (ln lc' : Nat), v = .slice la' ln lc' ∧ ln + cnt k = on ∧ ln ≤ lc' ∧ Ints wr la' (OZ.drop (cnt k))) ∧ Below w30.heap.size w30 wr) (fun _ i _ => an - (intOf i).toNat)
        case atStart => exact ⟨0, Nat.zero_le _, rfl, ⟨la, on, lc, rfl, by rw [HC0.out]; rfl, hLC, by rw [HC0.out, List.drop_zero]; exact hLI⟩, Below.refl _ _⟩
        case round =>
          obtain ⟨k, hk, rfl, ⟨la', ln, lc', hv, hln, hlc, hLI'⟩, hB⟩ := hrel
          clear hLI hLC
          by_cases hlt : k < an
          · have hTk := hTB.out k (by rw [HTL2.out]; exact hlt)
            have hbC := HBC.out rel (by omega)
            obtain ⟨bt, ot, eta, d1, d2⟩ := hT k (by rw [HTL2.out]; exact hlt)
            obtain ⟨br, orr, era, e1⟩ := hRI k (by rw [HZl.out]; exact hlt)
            obtain ⟨ba, oaa, eaa, e2⟩ := hAI k (by rw [HAZ.out]; exact hlt)
            obtain ⟨bc, occ, ecc, d3, d4, d5⟩ := hC0 rel (by rw [HC.out]; omega)
            have hzk : Z.getD k 0 = ((R.getD k 0 : Nat) : Int) := by
              have : k < R.length := by rw [HRn.out]; exact hlt
              rw [← HZR.out]
              simp [List.getD_eq_getElem?_getD, List.getElem?_map, List.getElem?_eq_getElem this]
            have hak : AZ.getD k 0 = ((A.getD k 0 : Nat) : Int) := by
              have : k < A.length := by rw [HAl.out]; exact hlt
              rw [← HAZR.out]
              simp [List.getD_eq_getElem?_getD, List.getElem?_map, List.getElem?_eq_getElem this]
            have hx1 := HA1.out k (by rw [HAl.out]; exact hlt)
            have hx2 := HA2.out k (by rw [HAl.out]; exact hlt)
            obtain ⟨hy1, hy2⟩ := HON.out k hlt
            have hio : isOpen s C T R rel sec k = (decide (R.getD k 0 = rel) && (decide ((T.getD k (0, 0)).1 < sec) && decide (sec < (T.getD k (0, 0)).2 + (((T.getD k (0, 0)).2 - (T.getD k (0, 0)).1) * (C.getD rel (0, 0, 0)).2.1 + delay)))) := by rw [← HSD.out]; rfl
            rw [hio] at hy1 hy2
            rw [hzk] at e1
            rw [hak] at e2
            obtain ⟨z, hz⟩ : ∃ z, T.getD k (0, 0) = z := ⟨_, rfl⟩
            obtain ⟨x, hx⟩ : ∃ x, R.getD k 0 = x := ⟨_, rfl⟩
            obtain ⟨y, hy⟩ : ∃ y, A.getD k 0 = y := ⟨_, rfl⟩
            obtain ⟨q, hq⟩ : ∃ q, C.getD rel (0, 0, 0) = q := ⟨_, rfl⟩
            rw [hz] at hTk d1 d2 hx1 hx2 hy1 hy2
            rw [hx] at e1 hx1 hy1 hy2
            rw [hy] at e2 hx1 hx2
            rw [hq] at hbC d3 d4 d5 hy1 hy2
            obtain ⟨f, to⟩ := z
            obtain ⟨lo, hi, rest⟩ := q
            simp only at hTk d1 d2 hx1 hx2 hy1 hy2 hbC d3 d4 d5
            clear hio hzk hak hz hx hy hq
            subst eta
            subst era
            subst eaa
            subst ecc
            subst hv
            replace d1 := cell_grown hB d1
            replace d2 := cell_grown hB d2
            replace d4 := cell_grown hB d4
            replace e1 := cell_grown hB e1
            replace e2 := cell_grown hB e2
            have v0 := cell_grown hB x0
            have v2 := cell_grown hB x2
            have g1 := lt_of_cell d1
            have g2 := lt_of_cell d4
            have g3 := lt_of_cell e1
            have g4 := lt_of_cell e2
            have g5 := lt_of_cell v0
            have hkk : (k : Int) < an := by omega
            have hmb := mul_bd (x := to - f) (y := hi) (by omega) (by omega) (by omega) (by omega)
            obtain ⟨pr, hpr⟩ : ∃ p, (to - f) * hi = p := ⟨_, rfl⟩
            rw [hpr] at hmb hy1 hy2
            have hw1 : IntKind.i64.wrap (to - f) = to - f := by rw [IntKind.wrap_i64]; omega
            have hw2 : IntKind.i64.wrap ((to - f) * hi) = pr := by rw [hpr, IntKind.wrap_i64]; omega
            have hw3 : IntKind.i64.wrap (to + pr) = to + pr := by rw [IntKind.wrap_i64]; omega
            have hw4 : IntKind.i64.wrap (to + pr + delay) = to + pr + delay := by rw [IntKind.wrap_i64]; omega
            clear d3 d5 hpr
            have HY1 := hid hy1
            have HY2 := hid hy2
            clear hy1 hy2
            have hwk : IntKind.i64.wrap ((k : Int) + 1) = (k : Int) + 1 := by rw [IntKind.wrap_i64]; omega
            by_cases hfs : f < sec
            · have hyx : y = x := hx1 hfs
              subst hyx
              have hfs' : ¬ sec ≤ f := by omega
              clear hx1 hx2
              by_cases hxr : y = rel
              · subst hxr
                by_cases hla : sec < to + pr + delay
                · have hla' : decide (sec < to + pr + delay) = true := by simpa using hla
                  go_wp2_with fail
                  go_big_quiet (fail)
                  obtain ⟨c1, c2, c3⟩ := HY1.out (by simp [hfs, hla, ← Int.add_assoc])
                  have hBq : Below wr.heap.size wr (wr.drewN nq) := below_drewN (Below.refl _ _) _
                  obtain ⟨wq, hwq⟩ : ∃ W, wr.drewN nq = W := ⟨_, rfl⟩
                  rw [hwq] at hBq ⊢
                  clear hwq
                  replace e1 := cell_grown hBq e1
                  replace e2 := cell_grown hBq e2
                  replace g3 := lt_of_cell e1
                  replace g4 := lt_of_cell e2
                  replace hLI' := hLI'.grown hBq
                  replace hB := hB.trans (hBq.mono hB.size)
                  have hln1 : 1 ≤ ln := by omega
                  obtain ⟨bl, ol, eal, e3⟩ := hLI' 0 (by rw [List.length_drop, HOZ.out]; omega)
                  have hd0 : (OZ.drop (cnt k)).getD 0 0 = (k : Int) := by rw [← c2]; simp [List.getD_eq_getElem?_getD, List.getElem?_drop]
                  rw [hd0, Nat.add_zero] at e3
                  subst eal
                  have g6 := lt_of_cell e3
                  have hnz : ((ln : Int) == 0) = false := by simp; omega
                  have hnz2 : ¬ ln = 0 := by omega
                  have hnz3 : (0 : Int) < ln := by omega
                  have hl1 : (1 : Int) ≤ ln := by omega
                  go_wp2_with fail
                  go_big_quiet (fail)
                  have hBr : Below wq.heap.size wq (wq.drewN nq) := below_drewN (Below.refl _ _) _
                  obtain ⟨wv, hwv⟩ : ∃ W, wq.drewN nq = W := ⟨_, rfl⟩
                  rw [hwv] at hBr ⊢
                  clear hwv
                  go_wp2_with fail
                  go_roundw
                  case rel =>
                    have hit := ints_tail (lc := lc') (hLI'.grown hBr) (by rw [List.length_drop, HOZ.out]; omega)
                    rw [List.drop_drop, ← c3] at hit
                    exact ⟨k + 1, by omega, by go_num, ⟨_, ln - 1, lc' - 1, rfl, by omega, by omega, hit⟩, hB.trans (hBr.mono hB.size)⟩
                  case measure => simp [intOf]; omega
                · have hla' : decide (sec < to + pr + delay) = false := by simpa using hla
                  have hcn : cnt (k + 1) = cnt k := HY2.out (by simp [hla, ← Int.add_assoc])
                  go_wp2_with fail
                  go_big_quiet (fail)
                  have hBq : Below wr.heap.size wr (wr.drewN nq) := below_drewN (Below.refl _ _) _
                  obtain ⟨wq, hwq⟩ : ∃ W, wr.drewN nq = W := ⟨_, rfl⟩
                  rw [hwq] at hBq ⊢
                  clear hwq
                  replace e1 := cell_grown hBq e1
                  replace e2 := cell_grown hBq e2
                  replace g3 := lt_of_cell e1
                  replace g4 := lt_of_cell e2
                  replace hLI' := hLI'.grown hBq
                  replace hB := hB.trans (hBq.mono hB.size)
                  go_wp2_with fail
                  go_big_quiet (fail)
                  have hBr : Below wq.heap.size wq (wq.drewN nq) := below_drewN (Below.refl _ _) _
                  obtain ⟨wv, hwv⟩ : ∃ W, wq.drewN nq = W := ⟨_, rfl⟩
                  rw [hwv] at hBr ⊢
                  clear hwv
                  go_wp2_with fail
                  go_roundw
                  case rel => exact ⟨k + 1, by omega, by go_num, ⟨la', ln, lc', rfl, by rw [hcn]; exact hln, hlc, by rw [hcn]; exact hLI'.grown hBr⟩, hB.trans (hBr.mono hB.size)⟩
                  case measure => simp [intOf]; omega
              · have hxr' : ¬ (y : Int) = (rel : Int) := by omega
                have hxb : ((y : Int) == (rel : Int)) = false := by simpa using hxr'
                have hcn : cnt (k + 1) = cnt k := HY2.out (by simp [hxr])
                go_wp2_with fail
                go_big_quiet (fail)
                have hBq : Below wr.heap.size wr (wr.drewN nq) := below_drewN (Below.refl _ _) _
                obtain ⟨wq, hwq⟩ : ∃ W, wr.drewN nq = W := ⟨_, rfl⟩
                rw [hwq] at hBq ⊢
                clear hwq
                replace e1 := cell_grown hBq e1
                replace e2 := cell_grown hBq e2
                replace g3 := lt_of_cell e1
                replace g4 := lt_of_cell e2
                replace hLI' := hLI'.grown hBq
                replace hB := hB.trans (hBq.mono hB.size)
                go_wp2_with fail
                go_big_quiet (fail)
                have hBr : Below wq.heap.size wq (wq.drewN nq) := below_drewN (Below.refl _ _) _
                obtain ⟨wv, hwv⟩ : ∃ W, wq.drewN nq = W := ⟨_, rfl⟩
                rw [hwv] at hBr ⊢
                clear hwv
                go_wp2_with fail
                go_roundw
                case rel => exact ⟨k + 1, by omega, by go_num, ⟨la', ln, lc', rfl, by rw [hcn]; exact hln, hlc, by rw [hcn]; exact hLI'.grown hBr⟩, hB.trans (hBr.mono hB.size)⟩
                case measure => simp [intOf]; omega
            · have hne : ¬ (y : Int) = (rel : Int) := by have := hx2 (by omega); omega
              have hfs' : sec ≤ f := by omega
              have hcn : cnt (k + 1) = cnt k := HY2.out (by simp [hfs])
              clear hx1 hx2
              go_wp2_with fail
              go_roundw
              case rel => exact ⟨k + 1, by omega, by go_num, ⟨la', ln, lc', rfl, by rw [hcn]; exact hln, hlc, by rw [hcn]; exact hLI'⟩, hB⟩
              case measure => simp [intOf]; omega
          · have hkn : k = an := by omega
            subst hkn
            have hln0 : ln = 0 := by have := HCN.out; omega
            subst hln0
            subst hv
            have HB' := hid (HB.out.trans (hB.mono HB.out.size))
            clear hB HB hln hLI'
            have HB := HB'
            clear HB'
            go_wp2_with fail
            refine (awake_any wr).mono ?_
            rintro e w' ⟨rfl, hb⟩
            go_wp2
            go_ret
            exact ⟨rfl, HB.out.trans (hb.mono HB.out.size)⟩

    · subst her
      clear hRnil hRI hRn
      go_wp2_with fail
      refine (awake_any w10).mono ?_
      rintro e w' ⟨rfl, hb⟩
      go_wp2
      go_ret
      exact ⟨rfl, HB.out.trans (hb.mono HB.out.size)⟩

end Go.Proofs.Ytgapbaelifcifaa
