/- The law TakeRelieves: its walk. -/
import Derived.Test.YtgapbaelifcifaaLB
import Derived.Test.YtgapbaelifcifaaKD
import Derived.Sort.AtCall
namespace Go.Proofs.Ytgapbaelifcifaa
open Go.RowKit

theorem relief_form {len long short due delay rp sec : Int} {L : List (Int × Int)} {C : List (Int × Int × Int)} {Z : List Int} {w w' : World} {e : Ending} (h : ReliefPost len long short due delay L C Z rp sec w e w') :
    Below w.heap.size w w' ∧ ∃ (aa oa : Option Addr) (an ac on oc : Nat) (er : Int) (A O : List Nat), e = .returned (.tuple #[.slice aa an ac, .slice oa on oc, .int .i64 er]) ∧ A.length = an ∧ O.length = on ∧ Ints w' aa (A.map fun r : Nat => (r : Int)) ∧ Ints w' oa (O.map fun r : Nat => (r : Int)) ∧
      Hid (reliefErr len long short due delay L C Z rp sec ≠ 0 ∧ er = reliefErr len long short due delay L C Z rp sec ∧ an = 0 ∧ on = 0 ∨
        reliefErr len long short due delay L C Z rp sec = 0 ∧ (er = 7 ∧ an = 0 ∧ on = 0 ∧ (∃ rc, (howW rp.toNat sec (Z.map Int.toNat) due delay C (takesOf len long short L)).dead rc 0 [0, 0, 0, 0, 0]) ∨
          er = 0 ∧ (howW rp.toNat sec (Z.map Int.toNat) due delay C (takesOf len long short L)).best A 0 [0, 0, 0, 0, 0] ∧ ∃ s : Sv, s.delay = delay ∧ O = openM s C (takesOf len long short L) (Z.map Int.toNat) rp.toNat sec (takesOf len long short L).length)) := by
  obtain ⟨hb, ⟨h1, rfl⟩ | ⟨h1, ⟨rfl, rc, _, hd⟩ | ⟨a, b, ac, bn, bc, A, s, hs, rfl, hA, hbest, hl, hO⟩⟩⟩ := h
  · exact ⟨hb, none, none, 0, 0, 0, 0, _, [], [], rfl, rfl, rfl, fun i hi => by simp at hi, fun i hi => by simp at hi, .inl ⟨h1, rfl, rfl, rfl⟩⟩
  · exact ⟨hb, none, none, 0, 0, 0, 0, 7, [], [], rfl, rfl, rfl, fun i hi => by simp at hi, fun i hi => by simp at hi, .inr ⟨h1, .inl ⟨rfl, rfl, rfl, rc, hd⟩⟩⟩
  · exact ⟨hb, a, b, _, ac, bn, bc, 0, A, _, rfl, rfl, hl, hA, hO, .inr ⟨h1, .inr ⟨rfl, hbest, s, hs, rfl⟩⟩⟩

theorem relief_code {E0 E er : Int} {an on : Nat} {P : Prop} (h : E0 ≠ 0 ∧ er = E0 ∧ an = 0 ∧ on = 0 ∨ E0 = 0 ∧ P) (hE : E0 = E) (h0 : E ≠ 0) : er = E ∧ an = 0 ∧ on = 0 := by
  subst hE
  rcases h with ⟨_, h1, h2, h3⟩ | ⟨h1, _⟩
  · exact ⟨h1, h2, h3⟩
  · exact absurd h1 h0

theorem relief_live {E0 er : Int} {an on : Nat} {P : Prop} (h : E0 ≠ 0 ∧ er = E0 ∧ an = 0 ∧ on = 0 ∨ E0 = 0 ∧ P) (hE : E0 = 0) : P := by
  rcases h with ⟨h1, _⟩ | ⟨_, h2⟩
  · exact absurd hE h1
  · exact h2

theorem relief_bad {len long short due delay rp sec x : Int} {L : List (Int × Int)} {C : List (Int × Int × Int)} {Z : List Int} {w w' : World} {e : Ending} (h : ReliefPost len long short due delay L C Z rp sec w e w') (hf : faultM len long short due delay L C = x ∧ x ≠ 0) :
    e = .returned (.tuple #[.slice none 0 0, .slice none 0 0, .int .i64 x]) ∧ Below w.heap.size w w' := by
  have he : reliefErr len long short due delay L C Z rp sec = x := by
    unfold reliefErr
    rw [serve_fault, hf.1, if_pos hf.2]
  obtain ⟨hb, ⟨h1, h2⟩ | ⟨h1, _⟩⟩ := h
  · rw [he] at h2
    exact ⟨h2, hb⟩
  · rw [he] at h1
    exact absurd h1 hf.2

theorem relief_chain {len long short due delay rp sec : Int} {L : List (Int × Int)} {C : List (Int × Int × Int)} {Z : List Int} (hf : faultM len long short due delay L C = 0) :
    reliefErr len long short due delay L C Z rp sec = if staffsM C.length (takesOf len long short L).length Z = false then 2 else if rightM (howOf due delay C (takesOf len long short L)) (Z.map Int.toNat) 0 [0, 0, 0, 0, 0] = false then 9 else if inB rp 0 (C.length - 1) = false ∨ inB sec 0 len = false then 2 else 0 := by
  unfold reliefErr
  rw [if_neg (by rw [serve_fault, hf]; simp)]

theorem staffs_nat {cn tn : Nat} {Z : List Int} (h : staffsM cn tn Z = true) (hl : Z.length = tn) : ∃ R : List Nat, Z = R.map (fun r : Nat => (r : Int)) ∧ R.length = tn ∧ ∀ j, j < tn → R.getD j 0 < cn := by
  refine ⟨Z.map Int.toNat, ?_, by rw [List.length_map]; exact hl, toNat_lt h⟩
  rw [List.map_map]
  conv => lhs; rw [← List.map_id Z]
  refine List.map_congr_left fun x hx => ?_
  obtain ⟨i, hi, rfl⟩ := List.mem_iff_getElem.1 hx
  have := ((staffs_at h).2 i hi).1
  rw [List.getD_eq_getElem?_getD, List.getElem?_eq_getElem hi, Option.getD_some] at this
  simp
  omega

theorem ints_cut {W : World} {a : Option Addr} {Z Y : List Int} {nb : Nat} (h : Ints W a Z) (hy : Z.take nb = Y) : Ints W a Y := by
  subst hy
  intro i hi
  rw [List.length_take] at hi
  obtain ⟨b, off, e, c⟩ := h i (by omega)
  refine ⟨b, off, e, ?_⟩
  rw [c]
  simp [List.getD_eq_getElem?_getD, List.getElem?_take, show i < nb by omega]

theorem rota_out {ok : List Nat → Bool} {cn d : Nat} {B : List Nat} {w' : World} {e : Ending} (h : (∃ (va : Option Addr) (vn vc : Nat) (X : List Nat), e = .returned (.tuple #[.slice va vn vc, .bool true]) ∧ X.length = vn ∧ Ints w' va (X.map fun r : Nat => (r : Int)) ∧ dfs ok cn d B = some X) ∨
       e = .returned (.tuple #[.slice none 0 0, .bool false]) ∧ dfs ok cn d B = none) :
    ∃ (va : Option Addr) (vn vc : Nat) (is : Bool) (X : List Nat), e = .returned (.tuple #[.slice va vn vc, .bool is]) ∧ X.length = vn ∧ Ints w' va (X.map fun r : Nat => (r : Int)) ∧ Hid (dfs ok cn d B = if is = true then some X else none) := by
  rcases h with ⟨va, vn, vc, X, rfl, hX, hI, hd⟩ | ⟨rfl, hd⟩
  · exact ⟨va, vn, vc, true, X, rfl, hX, hI, hd⟩
  · exact ⟨none, 0, 0, false, [], rfl, rfl, fun i hi => by simp at hi, hd⟩

set_option maxRecDepth 100000 in
set_option maxHeartbeats 40000000 in
theorem takeRelieves_any (L : List (Int × Int)) (len long short : Int) (n cap : Nat) (a : Option Addr) (C : List (Int × Int × Int)) (due delay : Int) (m cc : Nat) (ca : Option Addr) (Z : List Int) (zn zc : Nat) (za : Option Addr) (own : Bool) (rp sec : Int) (w : World)
    (hL : L.length = n) (hn : n ≤ maxLen) (hS : Spans w a L) (hC : C.length = m) (hm : m ≤ maxLen) (hCr : Crew w ca C) (hZ : Z.length = zn) (hzn : zn ≤ maxLen) (hI : Ints w za Z) (hzc : zn ≤ zc) :
    Calls Try.prog 7 #[.agg #[.int .i64 len, .slice a n cap, .int .i64 long, .int .i64 short], .agg #[.slice ca m cc, .int .i64 due, .int .i64 delay], .slice za zn zc, .bool own, .int .i64 rp, .int .i64 sec] w fun e w' => e = .returned (.bool true) ∧ Below w.heap.size w w' := by
  have hn' := hn
  have hm' := hm
  have hz' := hzn
  unfold maxLen at hn' hm' hz'
  have HL := hid hL
  have HC := hid hC
  have HZ := hid hZ
  clear hL hC hZ
  go_enter Try.func7, Try.ntmps7
  go_wp2_with fail
  obtain ⟨W0, hW0⟩ : ∃ W0, W0 = (w.alloc (.cells #[.int .i64 len, .slice a n cap, .int .i64 long, .int .i64 short] 24)).alloc (.cells #[.slice ca m cc, .int .i64 due, .int .i64 delay] 27) := ⟨_, rfl⟩
  have hB0 : Below w.heap.size w W0 := by rw [hW0]; exact ((Below.refl _ w).alloc (Nat.le_refl _) _).alloc (by simp) _
  have z0 : W0.heap.size = w.heap.size + 2 := by rw [hW0]; simp
  have y0 : W0.cell? ⟨w.heap.size, 0, none⟩ = some (.int .i64 len) := by rw [hW0]; simp [go_sem]
  have y1 : W0.cell? ⟨w.heap.size, 1, none⟩ = some (.slice a n cap) := by rw [hW0]; simp [go_sem]
  have y2 : W0.cell? ⟨w.heap.size, 2, none⟩ = some (.int .i64 long) := by rw [hW0]; simp [go_sem]
  have y3 : W0.cell? ⟨w.heap.size, 3, none⟩ = some (.int .i64 short) := by rw [hW0]; simp [go_sem]
  have x0 : W0.cell? ⟨w.heap.size + 1, 0, none⟩ = some (.slice ca m cc) := by rw [hW0]; simp [go_sem]
  have x1 : W0.cell? ⟨w.heap.size + 1, 1, none⟩ = some (.int .i64 due) := by rw [hW0]; simp [go_sem]
  have x2 : W0.cell? ⟨w.heap.size + 1, 2, none⟩ = some (.int .i64 delay) := by rw [hW0]; simp [go_sem]
  rw [← hW0]
  clear hW0
  have hS0 := hS.grown hB0
  have hC0 := hCr.grown hB0
  have hI0 := hI.grown hB0
  refine (few_any L C len long short due delay n cap m cc a ca W0 HL.out hn hS0 HC.out hm hC0).mono ?_
  obtain ⟨th, hth⟩ : ∃ b, ((decide (n ≤ 60) && decide (m ≤ 8)) && (!decide (faultM len long short due delay L C = 0) || decide ((takesOf len long short L).length ≤ 8))) = b := ⟨_, rfl⟩
  rw [hth]
  rintro e w1 ⟨rfl, hb1⟩
  replace y0 := cell_grown hb1 y0; replace y1 := cell_grown hb1 y1; replace y2 := cell_grown hb1 y2; replace y3 := cell_grown hb1 y3; replace x0 := cell_grown hb1 x0; replace x1 := cell_grown hb1 x1; replace x2 := cell_grown hb1 x2; replace hS0 := hS0.grown hb1; replace hC0 := hC0.grown hb1; replace hI0 := hI0.grown hb1
  have HB := hid (hB0.trans (hb1.mono (by omega)))
  clear hb1 hB0 hS hCr hI
  cases th
  · go_wp2_with fail
    refine (awake_any w1).mono ?_
    rintro e w' ⟨rfl, hb⟩
    go_wp2
    go_ret
    exact ⟨rfl, HB.out.trans (hb.mono HB.out.size)⟩
  by_cases hz45 : 45 < zn
  · have hzi : (45 : Int) < (zn : Int) := by omega
    go_wp2_with fail
    refine (awake_any w1).mono ?_
    rintro e w' ⟨rfl, hb⟩
    go_wp2
    go_ret
    exact ⟨rfl, HB.out.trans (hb.mono HB.out.size)⟩
  · have hzi : ¬ (45 : Int) < (zn : Int) := by omega
    have hth' : (n ≤ 60 ∧ m ≤ 8) ∧ (¬ faultM len long short due delay L C = 0 ∨ (takesOf len long short L).length ≤ 8) := by simpa using hth
    clear hth
    obtain ⟨⟨hn60, hm8⟩, hfew⟩ := hth'
    go_wp2_with fail
    refine (faultL_any L C len long short due delay n cap m cc a ca w1 HL.out hn60 hS0 HC.out hm hC0).mono ?_
    rintro e w4 ⟨rfl, hb4⟩
    replace y0 := cell_grown hb4 y0; replace y1 := cell_grown hb4 y1; replace y2 := cell_grown hb4 y2; replace y3 := cell_grown hb4 y3; replace x0 := cell_grown hb4 x0; replace x1 := cell_grown hb4 x1; replace x2 := cell_grown hb4 x2; replace hS0 := hS0.grown hb4; replace hC0 := hC0.grown hb4; replace hI0 := hI0.grown hb4; replace HB := hid (HB.out.trans (hb4.mono HB.out.size))
    clear hb4
    by_cases hfz : faultM len long short due delay L C = 0
    · have h8 : (takesOf len long short L).length ≤ 8 := by omega
      obtain ⟨hs0, ho0⟩ := fault_ok hfz
      obtain ⟨hok, h40⟩ := sitErr_zero hs0
      have HFV := hid hfz
      have HOK := hid hok
      obtain ⟨ho1, hdueb, hdelb, -⟩ := offOk_parts ho0
      have hc5 : m ≤ 5 := by rw [← HC.out]; exact ho1.2
      have hc1 : 1 ≤ m := by rw [← HC.out]; exact ho1.1
      have HBC : Hid (∀ i, i < m → 0 ≤ (C.getD i (0, 0, 0)).1 ∧ (C.getD i (0, 0, 0)).1 ≤ (C.getD i (0, 0, 0)).2.1 ∧ (C.getD i (0, 0, 0)).2.1 ≤ 20 ∧ 0 ≤ (C.getD i (0, 0, 0)).2.2 ∧ (C.getD i (0, 0, 0)).2.2 ≤ 36000) := hid (fun i hi => by
        have := crewOk_at (offOk_parts ho0).2.2.2 (i := i) (by rw [HC.out]; exact hi)
        generalize C.getD i (0, 0, 0) = x at this ⊢
        have h3' : (0 ≤ x.1 ∧ x.1 ≤ x.2.1) ∧ x.2.1 ≤ 20 ∧ 0 ≤ x.2.2 ∧ x.2.2 ≤ 36000 := by simpa [repOk, inB] using this
        omega)
      have HTB : Hid (∀ k, k < (takesOf len long short L).length → 0 ≤ ((takesOf len long short L).getD k (0, 0)).1 ∧ ((takesOf len long short L).getD k (0, 0)).1 < ((takesOf len long short L).getD k (0, 0)).2 ∧ ((takesOf len long short L).getD k (0, 0)).2 ≤ 36000) := hid (fun k hk => takesOf_bd hok hk)
      obtain ⟨-, hA0, -, -⟩ := takes_all hok
      have HA0 := hid hA0
      rw [hfz]
      clear hfz hs0 ho0 hok ho1 hfew hA0 h40
      cases own
      · go_wp2_with fail
        have hBd : Below w4.heap.size w4 w4.drew := (Below.refl _ _).drew
        go_wp2_with fail
        go_region_held3 (fun w' : World => w'.cell? ⟨w.heap.size, 0, none⟩ = some (.int .i64 len) ∧ w'.cell? ⟨w.heap.size, 1, none⟩ = some (.slice a n cap) ∧ w'.cell? ⟨w.heap.size, 2, none⟩ = some (.int .i64 long) ∧ w'.cell? ⟨w.heap.size, 3, none⟩ = some (.int .i64 short) ∧ w'.cell? ⟨w.heap.size + 1, 0, none⟩ = some (.slice ca m cc) ∧ w'.cell? ⟨w.heap.size + 1, 1, none⟩ = some (.int .i64 due) ∧ w'.cell? ⟨w.heap.size + 1, 2, none⟩ = some (.int .i64 delay)) (exact ⟨y0, y1, y2, y3, x0, x1, x2⟩) (first | (go_at_call 18; replace y0 := cell_grown hBd y0; replace y1 := cell_grown hBd y1; replace y2 := cell_grown hBd y2; replace y3 := cell_grown hBd y3; replace x0 := cell_grown hBd x0; replace x1 := cell_grown hBd x1; replace x2 := cell_grown hBd x2; replace hS0 := hS0.grown hBd; replace hC0 := hC0.grown hBd; replace hI0 := hI0.grown hBd; replace HB := hid (HB.out.trans (hBd.mono HB.out.size)); refine (sitting_any L len long short n cap a _ HL.out hn60 hS0).mono ?_; rintro e w2 ⟨ra, rc, rfl, hSr, hb2⟩; replace y0 := cell_grown hb2 y0; replace y1 := cell_grown hb2 y1; replace y2 := cell_grown hb2 y2; replace y3 := cell_grown hb2 y3; replace x0 := cell_grown hb2 x0; replace x1 := cell_grown hb2 x1; replace x2 := cell_grown hb2 x2; replace hS0 := hS0.grown hb2; replace hC0 := hC0.grown hb2; replace hI0 := hI0.grown hb2; replace HB := hid (HB.out.trans (hb2.mono HB.out.size))) | (go_at_call 20; refine (office_any C due delay m cc _ _ HC.out (by omega) hC0).mono ?_; rintro e w3 ⟨rb, rd, rfl, hCr3, hb3⟩; replace y0 := cell_grown hb3 y0; replace y1 := cell_grown hb3 y1; replace y2 := cell_grown hb3 y2; replace y3 := cell_grown hb3 y3; replace x0 := cell_grown hb3 x0; replace x1 := cell_grown hb3 x1; replace x2 := cell_grown hb3 x2; replace hS0 := hS0.grown hb3; replace hC0 := hC0.grown hb3; replace hI0 := hI0.grown hb3; replace hSr := hSr.grown hb3; replace HB := hid (HB.out.trans (hb3.mono HB.out.size))) | (go_at_call 35; refine (list_free Z zn zc za _ HZ.out (by omega) hI0).mono ?_; rintro e w5 ⟨vz, rfl, hownz, hb5⟩; obtain ⟨rz2, rzc2, rfl⟩ := owns_shape hownz; have hIz2 := ints_of_owns1 HZ.out hownz; replace y0 := cell_grown hb5 y0; replace y1 := cell_grown hb5 y1; replace y2 := cell_grown hb5 y2; replace y3 := cell_grown hb5 y3; replace x0 := cell_grown hb5 x0; replace x1 := cell_grown hb5 x1; replace x2 := cell_grown hb5 x2; replace hS0 := hS0.grown hb5; replace hC0 := hC0.grown hb5; replace hSr := hSr.grown hb5; replace hCr3 := hCr3.grown hb5; replace hI0 := hI0.grown hb5; replace HB := hid (HB.out.trans (hb5.mono HB.out.size))) | (go_at_call 43; refine (relieve_any L len long short due delay C Z rp sec n rc m rd zn rzc2 ra rb rz2 _ HL.out hn hSr HC.out hm hCr3 HZ.out (by unfold maxLen; omega) hIz2).mono ?_; intro e w20 hpost; obtain ⟨hb20, aa, oa, an, ac, on, oc, er2, A, O, rfl, hAl, hOl, hAI, hOI, HREL⟩ := relief_form hpost; replace y0 := cell_grown hb20 y0; replace y1 := cell_grown hb20 y1; replace y2 := cell_grown hb20 y2; replace y3 := cell_grown hb20 y3; replace x0 := cell_grown hb20 x0; replace x1 := cell_grown hb20 x1; replace x2 := cell_grown hb20 x2; replace hS0 := hS0.grown hb20; replace hC0 := hC0.grown hb20; replace hI0 := hI0.grown hb20; replace HB := hid (HB.out.trans (hb20.mono HB.out.size))))
        clear hpost hb2 hb3 hb5 hb20 hSr hCr3 hBd hIz2 hownz
        go_wp2_with fail
        refine (takesR_own L len long short n cap a w20 HL.out hn60 hS0 HOK.out).mono ?_
        rintro e w21 ⟨ta, tc, rfl, -, hb21, hT, htc⟩
        replace y0 := cell_grown hb21 y0; replace y1 := cell_grown hb21 y1; replace y2 := cell_grown hb21 y2; replace y3 := cell_grown hb21 y3; replace x0 := cell_grown hb21 x0; replace x1 := cell_grown hb21 x1; replace x2 := cell_grown hb21 x2; replace hS0 := hS0.grown hb21; replace hC0 := hC0.grown hb21; replace hI0 := hI0.grown hb21; replace hAI := hAI.grown hb21; replace hOI := hOI.grown hb21; replace HB := hid (HB.out.trans (hb21.mono HB.out.size))
        clear hb21
        have HRC := hid (relief_chain HFV.out (Z := Z) (rp := rp) (sec := sec))
        obtain ⟨T, hTT⟩ : ∃ T, (takesOf len long short L) = T := ⟨_, rfl⟩
        rw [hTT] at hT htc HTB HA0 h8 HREL HRC ⊢
        obtain ⟨tn, htn⟩ : ∃ tn, T.length = tn := ⟨_, rfl⟩
        have HTN := hid htn
        rw [htn] at htc HTB h8 HRC ⊢
        rw [HC.out] at HRC
        clear hTT htn
        go_wp2_with fail
        refine (listed_any Z due delay ca ta za m cc tn tc zn zc w21 HZ.out (by omega) hI0 (by omega) (by omega)).mono ?_
        rintro e w22 ⟨rfl, hb22⟩
        replace y0 := cell_grown hb22 y0; replace y1 := cell_grown hb22 y1; replace y2 := cell_grown hb22 y2; replace y3 := cell_grown hb22 y3; replace x0 := cell_grown hb22 x0; replace x1 := cell_grown hb22 x1; replace x2 := cell_grown hb22 x2; replace hS0 := hS0.grown hb22; replace hC0 := hC0.grown hb22; replace hI0 := hI0.grown hb22; replace hT := hT.grown hb22; replace hAI := hAI.grown hb22; replace hOI := hOI.grown hb22; replace HB := hid (HB.out.trans (hb22.mono HB.out.size))
        clear hb22
        cases hst : staffsM m tn Z
        · have HST := hid hst
          clear hst
          obtain ⟨her, han, hon⟩ := relief_code HREL.out (E := 2) (by rw [HRC.out, HST.out]; rfl) (by omega)
          subst her
          rw [han] at hAl
          rw [hon] at hOl
          subst han
          subst hon
          clear HREL hAI hOI
          go_wp2_with fail
          refine (awake_any w22).mono ?_
          rintro e w' ⟨rfl, hb⟩
          go_wp2
          go_ret
          exact ⟨rfl, HB.out.trans (hb.mono HB.out.size)⟩
        · have HST := hid hst
          have hzt : zn = tn := by rw [← HZ.out]; exact (staffs_at hst).1
          subst hzt
          obtain ⟨R, hRZ, hRl, hRlt⟩ := staffs_nat hst HZ.out
          have HRZ := hid hRZ
          have HRl := hid hRl
          have HRlt := hid hRlt
          clear hst hRZ hRl hRlt
          go_wp2_with fail
          refine (isRota_any C T Z due delay m cc zn tc zc ca ta za w22 HC.out hc5 hC0 HBC.out HTN.out (by omega) hT HTB.out HZ.out hI0 hzc (fun j hj => (staffs_at HST.out).2 j (by rw [HZ.out]; exact hj)) hdueb hdelb).mono ?_
          have HRM : Hid (((List.range zn).all fun k => rotaOk due delay C T (Z.map Int.toNat) k) = rightM (howOf due delay C T) (Z.map Int.toNat) 0 [0, 0, 0, 0, 0]) := hid (by
            have h1 := right_rota (due := due) (delay := delay) (C := C) (R := Z.map Int.toNat) HA0.out (by rw [List.length_map, HZ.out, HTN.out]) (fun j hj => by
              rw [HRZ.out, map_map_nat]
              have := HRlt.out j (by rw [List.length_map, HZ.out] at hj; exact hj)
              omega)
            rw [h1, List.length_map, HZ.out])
          rintro e w23 ⟨rfl, hb23⟩
          replace y0 := cell_grown hb23 y0; replace y1 := cell_grown hb23 y1; replace y2 := cell_grown hb23 y2; replace y3 := cell_grown hb23 y3; replace x0 := cell_grown hb23 x0; replace x1 := cell_grown hb23 x1; replace x2 := cell_grown hb23 x2; replace hS0 := hS0.grown hb23; replace hC0 := hC0.grown hb23; replace hI0 := hI0.grown hb23; replace hT := hT.grown hb23; replace hAI := hAI.grown hb23; replace hOI := hOI.grown hb23; replace HB := hid (HB.out.trans (hb23.mono HB.out.size))
          clear hb23
          cases hv : ((List.range zn).all fun k => rotaOk due delay C T (Z.map Int.toNat) k)
          · have HV : Hid (rightM (howOf due delay C T) (Z.map Int.toNat) 0 [0, 0, 0, 0, 0] = false) := hid (by rw [← HRM.out]; exact hv)
            clear hv HRM
            obtain ⟨her, han, hon⟩ := relief_code HREL.out (E := 9) (by rw [HRC.out, HST.out, HV.out]; rfl) (by omega)
            subst her
            rw [han] at hAl
            rw [hon] at hOl
            subst han
            subst hon
            clear HREL hAI hOI
            go_wp2_with fail
            refine (awake_any w23).mono ?_
            rintro e w' ⟨rfl, hb⟩
            go_wp2
            go_ret
            exact ⟨rfl, HB.out.trans (hb.mono HB.out.size)⟩
          · have HV : Hid (rightM (howOf due delay C T) (Z.map Int.toNat) 0 [0, 0, 0, 0, 0] = true) := hid (by rw [← HRM.out]; exact hv)
            clear hv HRM
            have hcw : IntKind.i64.wrap ((m : Int) - 1) = (m : Int) - 1 := by rw [IntKind.wrap_i64]; omega
            go_wp2_with fail
            refine (in_any rp 0 ((m : Int) - 1) w23).mono ?_
            rintro e w24 ⟨rfl, rfl⟩
            cases hw1 : inB rp 0 ((m : Int) - 1)
            · have HW1 := hid hw1
              clear hw1
              obtain ⟨her, han, hon⟩ := relief_code HREL.out (E := 2) (by rw [HRC.out, HST.out, HV.out, HW1.out]; simp) (by omega)
              subst her
              rw [han] at hAl
              rw [hon] at hOl
              subst han
              subst hon
              clear HREL hAI hOI
              go_wp2_with fail
              refine (awake_any w23).mono ?_
              rintro e w' ⟨rfl, hb⟩
              go_wp2
              go_ret
              exact ⟨rfl, HB.out.trans (hb.mono HB.out.size)⟩
            · have HW1 := hid hw1
              have hrb : 0 ≤ rp ∧ rp ≤ (m : Int) - 1 := by simpa [inB] using hw1
              obtain ⟨rel, hrel⟩ : ∃ rn : Nat, rp = (rn : Int) := ⟨rp.toNat, by omega⟩
              subst hrel
              have hrelm : rel < m := by omega
              clear hw1 hrb
              go_wp2_with fail
              refine (in_any sec 0 len w23).mono ?_
              rintro e w24 ⟨rfl, rfl⟩
              cases hw2 : inB sec 0 len
              · have HW2 := hid hw2
                clear hw2
                obtain ⟨her, han, hon⟩ := relief_code HREL.out (E := 2) (by rw [HRC.out, HST.out, HV.out, HW1.out, HW2.out]; simp) (by omega)
                subst her
                rw [han] at hAl
                rw [hon] at hOl
                subst han
                subst hon
                clear HREL hAI hOI
                go_wp2_with fail
                refine (awake_any w23).mono ?_
                rintro e w' ⟨rfl, hb⟩
                go_wp2
                go_ret
                exact ⟨rfl, HB.out.trans (hb.mono HB.out.size)⟩
              · have HEZ : Hid (reliefErr len long short due delay L C Z (rel : Int) sec = 0) := hid (by rw [HRC.out, HST.out, HV.out, HW1.out, hw2]; simp)
                have HRP : Hid ((howOf due delay C T).path R 0 [0, 0, 0, 0, 0]) := hid (by
                  have h1 := HV.out
                  rw [HRZ.out, map_map_nat] at h1
                  refine (right_path R 0 _ ?_ ?_).1 h1
                  · rw [Nat.zero_add, HRl.out]; exact Nat.le_of_eq HTN.out.symm
                  · intro r hr
                    obtain ⟨i, hi, rfl⟩ := List.mem_iff_getElem.1 hr
                    have := HRlt.out i (by rw [← HRl.out]; exact hi)
                    rw [List.getD_eq_getElem?_getD, List.getElem?_eq_getElem hi, Option.getD_some] at this
                    show _ < C.length
                    rw [HC.out]
                    exact this)
                have HR2 : Hid (R.length = T.length) := hid (by rw [HRl.out, HTN.out])
                have hrl := relief_live HREL.out HEZ.out
                rw [HRZ.out, map_map_nat, Int.toNat_natCast] at hrl
                obtain ⟨nb, hnb⟩ := before_ex T sec
                have hnbn : nb ≤ zn := by rw [← HTN.out]; exact hnb.1
                have HNB := hid hnb
                have HLIVE := hid hrl
                have HRT : Hid ((R.take nb).length = nb) := hid (by rw [List.length_take, HRl.out]; omega)
                have HRB : Hid (∀ j, j < nb → (R.take nb).getD j 0 < m) := hid (fun j hj => by rw [nat_take hj]; exact HRlt.out j (by omega))
                have HZT : Hid (Z.take nb = (R.take nb).map fun r : Nat => (r : Int)) := hid (by rw [HRZ.out, List.map_take])
                have hnbi : (nb : Int) ≤ zc := by omega
                have hnb0 : (0 : Int) ≤ nb := by omega
                have hnbt : (nb : Int).toNat = nb := by omega
                have hBd : Below w23.heap.size w23 w23.drew := (Below.refl _ _).drew
                clear hw2 hnb hrl HREL HRC HEZ HV HST HW1
                go_wp2_with fail
                go_region_held3 (fun w' : World => w'.cell? ⟨w.heap.size, 0, none⟩ = some (.int .i64 len) ∧ w'.cell? ⟨w.heap.size, 1, none⟩ = some (.slice a n cap) ∧ w'.cell? ⟨w.heap.size, 2, none⟩ = some (.int .i64 long) ∧ w'.cell? ⟨w.heap.size, 3, none⟩ = some (.int .i64 short) ∧ w'.cell? ⟨w.heap.size + 1, 0, none⟩ = some (.slice ca m cc) ∧ w'.cell? ⟨w.heap.size + 1, 1, none⟩ = some (.int .i64 due) ∧ w'.cell? ⟨w.heap.size + 1, 2, none⟩ = some (.int .i64 delay)) (exact ⟨y0, y1, y2, y3, x0, x1, x2⟩) (first | (go_at_call 44; replace y0 := cell_grown hBd y0; replace y1 := cell_grown hBd y1; replace y2 := cell_grown hBd y2; replace y3 := cell_grown hBd y3; replace x0 := cell_grown hBd x0; replace x1 := cell_grown hBd x1; replace x2 := cell_grown hBd x2; replace hS0 := hS0.grown hBd; replace hC0 := hC0.grown hBd; replace hI0 := hI0.grown hBd; replace hT := hT.grown hBd; replace hAI := hAI.grown hBd; replace hOI := hOI.grown hBd; replace HB := hid (HB.out.trans (hBd.mono HB.out.size)); refine (before_any T sec zn tc nb ta _ HTN.out (by omega) hT HNB.out).mono ?_; rintro e w25 ⟨rfl, hb25⟩; replace y0 := cell_grown hb25 y0; replace y1 := cell_grown hb25 y1; replace y2 := cell_grown hb25 y2; replace y3 := cell_grown hb25 y3; replace x0 := cell_grown hb25 x0; replace x1 := cell_grown hb25 x1; replace x2 := cell_grown hb25 x2; replace hS0 := hS0.grown hb25; replace hC0 := hC0.grown hb25; replace hI0 := hI0.grown hb25; replace hT := hT.grown hb25; replace hAI := hAI.grown hb25; replace hOI := hOI.grown hb25; replace HB := hid (HB.out.trans (hb25.mono HB.out.size))) | (go_at_call 32; refine (rotaR_any C T due delay (rel : Int) m cc zn tc ca ta HC.out hc5 HBC.out HTN.out (by omega) HTB.out hdueb hdelb (zn - nb) (R.take nb) nb _ _ _ (by omega) HRT.out HRB.out hC0 hT (ints_cut hI0 HZT.out)).mono ?_; rintro e w26 ⟨hb26, hpost⟩; replace y0 := cell_grown hb26 y0; replace y1 := cell_grown hb26 y1; replace y2 := cell_grown hb26 y2; replace y3 := cell_grown hb26 y3; replace x0 := cell_grown hb26 x0; replace x1 := cell_grown hb26 x1; replace x2 := cell_grown hb26 x2; replace hS0 := hS0.grown hb26; replace hC0 := hC0.grown hb26; replace hI0 := hI0.grown hb26; replace hT := hT.grown hb26; replace hAI := hAI.grown hb26; replace hOI := hOI.grown hb26; replace HB := hid (HB.out.trans (hb26.mono HB.out.size)); obtain ⟨xa, xn, xc, is, X, rfl, hXn, hIX, HIS⟩ := rota_out hpost))
                clear hpost hBd hb25 hb26 hnbi hnb0 hnbt
                cases is
                · have hd : dfs (okM (rel : Int) due delay C T) m (zn - nb) (R.take nb) = none := by have := HIS.out; simpa using this
                  rcases HLIVE.out with ⟨her, han, hon, _⟩ | ⟨_, hbest, _⟩
                  · rw [han] at hAl
                    rw [hon] at hOl
                    subst her
                    subst han
                    subst hon
                    clear hd HIS HLIVE hAI hOI hIX
                    go_wp2_with fail
                    refine (awake_any w26).mono ?_
                    rintro e w' ⟨rfl, hb⟩
                    go_wp2
                    go_ret
                    exact ⟨rfl, HB.out.trans (hb.mono HB.out.size)⟩
                  · exact (relief_none HA0.out (by rw [HC.out]; exact hc5) HNB.out HR2.out HRP.out (by rw [HC.out, HTN.out]; exact hd) hbest).elim
                · have hd : dfs (okM (rel : Int) due delay C T) m (zn - nb) (R.take nb) = some X := by have := HIS.out; simpa using this
                  obtain ⟨hs1, hs2⟩ := relief_some HA0.out (by rw [HC.out]; exact hc5) HNB.out HR2.out HRP.out (by rw [HC.out, HTN.out]; exact hd)
                  rcases HLIVE.out with ⟨_, _, _, rc0, hdead⟩ | ⟨her, hbest, s, hsd, hO⟩
                  · exact (hs2 rc0 hdead).elim
                  · have hAX := hs1 A hbest
                    subst her
                    subst hAX
                    have hxa : xn = an := by omega
                    subst hxa
                    have hx8 : xn ≤ 8 := by
                      have h1 := hbest.2.1
                      have h2 : (howW rel sec R due delay C T).tn = T.length := rfl
                      have h3 := HTN.out
                      omega
                    rw [open_before HA0.out HNB.out s] at hO
                    have hon8 : on ≤ 8 := by
                      rw [← hOl, hO]
                      exact Nat.le_trans (openM_le ..) (by omega)
                    have HOO := hid hO
                    have HSD := hid hsd
                    have hIR : Ints w26 za (R.map fun r : Nat => (r : Int)) := by have := hI0; rw [HRZ.out] at this; exact this
                    clear hd hbest HIS HLIVE hs1 hs2 hO hsd hI0
                    go_wp2_with fail
                    refine (ints_any _ _ xn xn ac xc aa xa w26 (by rw [List.length_map]; exact hAl) (by rw [List.length_map]; exact hAl) (by unfold maxLen; omega) (by unfold maxLen; omega) hAI hIX).mono ?_
                    rw [decide_eq_true rfl]
                    rintro e w27 ⟨rfl, hb27⟩
                    replace y0 := cell_grown hb27 y0; replace y1 := cell_grown hb27 y1; replace y2 := cell_grown hb27 y2; replace y3 := cell_grown hb27 y3; replace x0 := cell_grown hb27 x0; replace x1 := cell_grown hb27 x1; replace x2 := cell_grown hb27 x2; replace hS0 := hS0.grown hb27; replace hC0 := hC0.grown hb27; replace hIR := hIR.grown hb27; replace hT := hT.grown hb27; replace hOI := hOI.grown hb27; replace HB := hid (HB.out.trans (hb27.mono HB.out.size))
                    clear hb27 hAI hIX
                    go_wp2_with fail
                    refine (openR_any C T R s due delay sec rel nb m cc zn tc zc ca ta za w27 HSD.out HC.out hc5 HBC.out HTN.out (by omega) HTB.out hdelb hC0 hT HRl.out hIR hrelm HNB.out).mono ?_
                    rintro e w28 ⟨va2, vn2, vc2, rfl, hvl, hvI, hb28⟩
                    rw [← HOO.out] at hvl hvI
                    replace y0 := cell_grown hb28 y0; replace y1 := cell_grown hb28 y1; replace y2 := cell_grown hb28 y2; replace y3 := cell_grown hb28 y3; replace x0 := cell_grown hb28 x0; replace x1 := cell_grown hb28 x1; replace x2 := cell_grown hb28 x2; replace hS0 := hS0.grown hb28; replace hC0 := hC0.grown hb28; replace hOI := hOI.grown hb28; replace HB := hid (HB.out.trans (hb28.mono HB.out.size))
                    clear hb28 hIR
                    have hvo : vn2 = on := by omega
                    subst hvo
                    go_wp2_with fail
                    refine (ints_any _ _ vn2 vn2 oc vc2 oa va2 w28 (by rw [List.length_map]; exact hOl) (by rw [List.length_map]; exact hOl) (by unfold maxLen; omega) (by unfold maxLen; omega) hOI hvI).mono ?_
                    rw [decide_eq_true rfl]
                    rintro e w29 ⟨rfl, hb29⟩
                    replace y0 := cell_grown hb29 y0; replace y1 := cell_grown hb29 y1; replace y2 := cell_grown hb29 y2; replace y3 := cell_grown hb29 y3; replace x0 := cell_grown hb29 x0; replace x1 := cell_grown hb29 x1; replace x2 := cell_grown hb29 x2; replace hS0 := hS0.grown hb29; replace hC0 := hC0.grown hb29; replace HB := hid (HB.out.trans (hb29.mono HB.out.size))
                    clear hb29 hOI hvI
                    go_wp2_with fail
                    refine (awake_any w29).mono ?_
                    rintro e w' ⟨rfl, hb⟩
                    go_wp2
                    go_ret
                    exact ⟨rfl, HB.out.trans (hb.mono HB.out.size)⟩
      · have hBd : Below w4.heap.size w4 w4.drew := (Below.refl _ _).drew
        go_wp2_with fail
        go_region_held3 (fun w' : World => w'.cell? ⟨w.heap.size, 0, none⟩ = some (.int .i64 len) ∧ w'.cell? ⟨w.heap.size, 1, none⟩ = some (.slice a n cap) ∧ w'.cell? ⟨w.heap.size, 2, none⟩ = some (.int .i64 long) ∧ w'.cell? ⟨w.heap.size, 3, none⟩ = some (.int .i64 short) ∧ w'.cell? ⟨w.heap.size + 1, 0, none⟩ = some (.slice ca m cc) ∧ w'.cell? ⟨w.heap.size + 1, 1, none⟩ = some (.int .i64 due) ∧ w'.cell? ⟨w.heap.size + 1, 2, none⟩ = some (.int .i64 delay)) (exact ⟨y0, y1, y2, y3, x0, x1, x2⟩) (first | (go_at_call 18; replace y0 := cell_grown hBd y0; replace y1 := cell_grown hBd y1; replace y2 := cell_grown hBd y2; replace y3 := cell_grown hBd y3; replace x0 := cell_grown hBd x0; replace x1 := cell_grown hBd x1; replace x2 := cell_grown hBd x2; replace hS0 := hS0.grown hBd; replace hC0 := hC0.grown hBd; replace hI0 := hI0.grown hBd; replace HB := hid (HB.out.trans (hBd.mono HB.out.size)); refine (sitting_any L len long short n cap a _ HL.out hn60 hS0).mono ?_; rintro e w2 ⟨ra, rc, rfl, hSr, hb2⟩; replace y0 := cell_grown hb2 y0; replace y1 := cell_grown hb2 y1; replace y2 := cell_grown hb2 y2; replace y3 := cell_grown hb2 y3; replace x0 := cell_grown hb2 x0; replace x1 := cell_grown hb2 x1; replace x2 := cell_grown hb2 x2; replace hS0 := hS0.grown hb2; replace hC0 := hC0.grown hb2; replace hI0 := hI0.grown hb2; replace HB := hid (HB.out.trans (hb2.mono HB.out.size))) | (go_at_call 20; refine (office_any C due delay m cc _ _ HC.out (by omega) hC0).mono ?_; rintro e w3 ⟨rb, rd, rfl, hCr3, hb3⟩; replace y0 := cell_grown hb3 y0; replace y1 := cell_grown hb3 y1; replace y2 := cell_grown hb3 y2; replace y3 := cell_grown hb3 y3; replace x0 := cell_grown hb3 x0; replace x1 := cell_grown hb3 x1; replace x2 := cell_grown hb3 x2; replace hS0 := hS0.grown hb3; replace hC0 := hC0.grown hb3; replace hI0 := hI0.grown hb3; replace hSr := hSr.grown hb3; replace HB := hid (HB.out.trans (hb3.mono HB.out.size))) | (go_at_call 29; refine (rota_any L len long short due delay C n rc m rd ra rb _ HL.out hn hSr HC.out hm hCr3).mono ?_; intro e w10 hpost; obtain ⟨va, vn, vc, er, R, rfl, hb10, hRn, hRI, HRO⟩ := rota_one hpost HFV.out; replace y0 := cell_grown hb10 y0; replace y1 := cell_grown hb10 y1; replace y2 := cell_grown hb10 y2; replace y3 := cell_grown hb10 y3; replace x0 := cell_grown hb10 x0; replace x1 := cell_grown hb10 x1; replace x2 := cell_grown hb10 x2; replace hS0 := hS0.grown hb10; replace hC0 := hC0.grown hb10; replace hI0 := hI0.grown hb10; replace HB := hid (HB.out.trans (hb10.mono HB.out.size))))
        clear hpost hb2 hb3 hb10 hSr hCr3 hBd
        rcases HRO.out with ⟨her, hbest⟩ | ⟨her, hRnil, _⟩
        · subst her
          have hv8 : vn ≤ 8 := by
            have h1 := hbest.2.1
            have h2 : (howOf due delay C (takesOf len long short L)).tn = (takesOf len long short L).length := rfl
            omega
          obtain ⟨RZ, hRZ0⟩ : ∃ Z, (R.map fun r : Nat => (r : Int)) = Z := ⟨_, rfl⟩
          have HRZl : Hid (RZ.length = vn) := hid (by rw [← hRZ0, List.length_map]; exact hRn)
          rw [hRZ0] at hRI
          have hv45 : (vn : Int) ≤ 45 := by omega
          clear hRZ0 hRn hbest HRO
          go_wp2_with fail
          refine (list_free RZ vn vc va w10 HRZl.out (by omega) hRI).mono ?_
          rintro e w11 ⟨vz, rfl, hownr, hb11⟩
          obtain ⟨rz, rzc, rfl⟩ := owns_shape hownr
          have hRI2 := ints_of_owns1 HRZl.out hownr
          have hrzc := (owns_cap hownr).1
          replace y0 := cell_grown hb11 y0; replace y1 := cell_grown hb11 y1; replace y2 := cell_grown hb11 y2; replace y3 := cell_grown hb11 y3; replace x0 := cell_grown hb11 x0; replace x1 := cell_grown hb11 x1; replace x2 := cell_grown hb11 x2; replace hS0 := hS0.grown hb11; replace hC0 := hC0.grown hb11; replace HB := hid (HB.out.trans (hb11.mono HB.out.size))
          clear hb11 hownr hRI hI0
          have hBd : Below w11.heap.size w11 w11.drew := (Below.refl _ _).drew
          go_wp2_with fail
          go_region_held3 (fun w' : World => w'.cell? ⟨w.heap.size, 0, none⟩ = some (.int .i64 len) ∧ w'.cell? ⟨w.heap.size, 1, none⟩ = some (.slice a n cap) ∧ w'.cell? ⟨w.heap.size, 2, none⟩ = some (.int .i64 long) ∧ w'.cell? ⟨w.heap.size, 3, none⟩ = some (.int .i64 short) ∧ w'.cell? ⟨w.heap.size + 1, 0, none⟩ = some (.slice ca m cc) ∧ w'.cell? ⟨w.heap.size + 1, 1, none⟩ = some (.int .i64 due) ∧ w'.cell? ⟨w.heap.size + 1, 2, none⟩ = some (.int .i64 delay)) (exact ⟨y0, y1, y2, y3, x0, x1, x2⟩) (first | (go_at_call 18; replace y0 := cell_grown hBd y0; replace y1 := cell_grown hBd y1; replace y2 := cell_grown hBd y2; replace y3 := cell_grown hBd y3; replace x0 := cell_grown hBd x0; replace x1 := cell_grown hBd x1; replace x2 := cell_grown hBd x2; replace hS0 := hS0.grown hBd; replace hC0 := hC0.grown hBd; replace hRI2 := hRI2.grown hBd; replace HB := hid (HB.out.trans (hBd.mono HB.out.size)); refine (sitting_any L len long short n cap a _ HL.out hn60 hS0).mono ?_; rintro e w2 ⟨ra, rc, rfl, hSr, hb2⟩; replace y0 := cell_grown hb2 y0; replace y1 := cell_grown hb2 y1; replace y2 := cell_grown hb2 y2; replace y3 := cell_grown hb2 y3; replace x0 := cell_grown hb2 x0; replace x1 := cell_grown hb2 x1; replace x2 := cell_grown hb2 x2; replace hS0 := hS0.grown hb2; replace hC0 := hC0.grown hb2; replace hRI2 := hRI2.grown hb2; replace HB := hid (HB.out.trans (hb2.mono HB.out.size))) | (go_at_call 20; refine (office_any C due delay m cc _ _ HC.out (by omega) hC0).mono ?_; rintro e w3 ⟨rb, rd, rfl, hCr3, hb3⟩; replace y0 := cell_grown hb3 y0; replace y1 := cell_grown hb3 y1; replace y2 := cell_grown hb3 y2; replace y3 := cell_grown hb3 y3; replace x0 := cell_grown hb3 x0; replace x1 := cell_grown hb3 x1; replace x2 := cell_grown hb3 x2; replace hS0 := hS0.grown hb3; replace hC0 := hC0.grown hb3; replace hRI2 := hRI2.grown hb3; replace hSr := hSr.grown hb3; replace HB := hid (HB.out.trans (hb3.mono HB.out.size))) | (go_at_call 35; refine (list_free RZ vn rzc rz _ HRZl.out (by omega) hRI2).mono ?_; rintro e w5 ⟨vz, rfl, hownz, hb5⟩; obtain ⟨rz2, rzc2, rfl⟩ := owns_shape hownz; have hIz2 := ints_of_owns1 HRZl.out hownz; replace y0 := cell_grown hb5 y0; replace y1 := cell_grown hb5 y1; replace y2 := cell_grown hb5 y2; replace y3 := cell_grown hb5 y3; replace x0 := cell_grown hb5 x0; replace x1 := cell_grown hb5 x1; replace x2 := cell_grown hb5 x2; replace hS0 := hS0.grown hb5; replace hC0 := hC0.grown hb5; replace hSr := hSr.grown hb5; replace hCr3 := hCr3.grown hb5; replace hRI2 := hRI2.grown hb5; replace HB := hid (HB.out.trans (hb5.mono HB.out.size))) | (go_at_call 43; refine (relieve_any L len long short due delay C RZ rp sec n rc m rd vn rzc2 ra rb rz2 _ HL.out hn hSr HC.out hm hCr3 HRZl.out (by unfold maxLen; omega) hIz2).mono ?_; intro e w20 hpost; obtain ⟨hb20, aa, oa, an, ac, on, oc, er2, A, O, rfl, hAl, hOl, hAI, hOI, HREL⟩ := relief_form hpost; replace y0 := cell_grown hb20 y0; replace y1 := cell_grown hb20 y1; replace y2 := cell_grown hb20 y2; replace y3 := cell_grown hb20 y3; replace x0 := cell_grown hb20 x0; replace x1 := cell_grown hb20 x1; replace x2 := cell_grown hb20 x2; replace hS0 := hS0.grown hb20; replace hC0 := hC0.grown hb20; replace hRI2 := hRI2.grown hb20; replace HB := hid (HB.out.trans (hb20.mono HB.out.size))))
          clear hpost hb2 hb3 hb5 hb20 hSr hCr3 hBd hIz2 hownz
          go_wp2_with fail
          refine (takesR_own L len long short n cap a w20 HL.out hn60 hS0 HOK.out).mono ?_
          rintro e w21 ⟨ta, tc, rfl, -, hb21, hT, htc⟩
          replace y0 := cell_grown hb21 y0; replace y1 := cell_grown hb21 y1; replace y2 := cell_grown hb21 y2; replace y3 := cell_grown hb21 y3; replace x0 := cell_grown hb21 x0; replace x1 := cell_grown hb21 x1; replace x2 := cell_grown hb21 x2; replace hS0 := hS0.grown hb21; replace hC0 := hC0.grown hb21; replace hRI2 := hRI2.grown hb21; replace hAI := hAI.grown hb21; replace hOI := hOI.grown hb21; replace HB := hid (HB.out.trans (hb21.mono HB.out.size))
          clear hb21
          have HRC := hid (relief_chain HFV.out (Z := RZ) (rp := rp) (sec := sec))
          obtain ⟨T, hTT⟩ : ∃ T, (takesOf len long short L) = T := ⟨_, rfl⟩
          rw [hTT] at hT htc HTB HA0 h8 HREL HRC ⊢
          obtain ⟨tn, htn⟩ : ∃ tn, T.length = tn := ⟨_, rfl⟩
          have HTN := hid htn
          rw [htn] at htc HTB h8 HRC ⊢
          rw [HC.out] at HRC
          clear hTT htn
          go_wp2_with fail
          refine (listed_any RZ due delay ca ta rz m cc tn tc vn rzc w21 HRZl.out (by omega) hRI2 (by omega) (by omega)).mono ?_
          rintro e w22 ⟨rfl, hb22⟩
          replace y0 := cell_grown hb22 y0; replace y1 := cell_grown hb22 y1; replace y2 := cell_grown hb22 y2; replace y3 := cell_grown hb22 y3; replace x0 := cell_grown hb22 x0; replace x1 := cell_grown hb22 x1; replace x2 := cell_grown hb22 x2; replace hS0 := hS0.grown hb22; replace hC0 := hC0.grown hb22; replace hRI2 := hRI2.grown hb22; replace hT := hT.grown hb22; replace hAI := hAI.grown hb22; replace hOI := hOI.grown hb22; replace HB := hid (HB.out.trans (hb22.mono HB.out.size))
          clear hb22
          cases hst : staffsM m tn RZ
          · have HST := hid hst
            clear hst
            obtain ⟨her, han, hon⟩ := relief_code HREL.out (E := 2) (by rw [HRC.out, HST.out]; rfl) (by omega)
            subst her
            rw [han] at hAl
            rw [hon] at hOl
            subst han
            subst hon
            clear HREL hAI hOI
            go_wp2_with fail
            refine (awake_any w22).mono ?_
            rintro e w' ⟨rfl, hb⟩
            go_wp2
            go_ret
            exact ⟨rfl, HB.out.trans (hb.mono HB.out.size)⟩
          · have HST := hid hst
            have hzt : vn = tn := by rw [← HRZl.out]; exact (staffs_at hst).1
            subst hzt
            obtain ⟨R, hRZ, hRl, hRlt⟩ := staffs_nat hst HRZl.out
            have HRZ := hid hRZ
            have HRl := hid hRl
            have HRlt := hid hRlt
            clear hst hRZ hRl hRlt
            go_wp2_with fail
            refine (isRota_any C T RZ due delay m cc vn tc rzc ca ta rz w22 HC.out hc5 hC0 HBC.out HTN.out (by omega) hT HTB.out HRZl.out hRI2 hrzc (fun j hj => (staffs_at HST.out).2 j (by rw [HRZl.out]; exact hj)) hdueb hdelb).mono ?_
            have HRM : Hid (((List.range vn).all fun k => rotaOk due delay C T (RZ.map Int.toNat) k) = rightM (howOf due delay C T) (RZ.map Int.toNat) 0 [0, 0, 0, 0, 0]) := hid (by
              have h1 := right_rota (due := due) (delay := delay) (C := C) (R := RZ.map Int.toNat) HA0.out (by rw [List.length_map, HRZl.out, HTN.out]) (fun j hj => by
                rw [HRZ.out, map_map_nat]
                have := HRlt.out j (by rw [List.length_map, HRZl.out] at hj; exact hj)
                omega)
              rw [h1, List.length_map, HRZl.out])
            rintro e w23 ⟨rfl, hb23⟩
            replace y0 := cell_grown hb23 y0; replace y1 := cell_grown hb23 y1; replace y2 := cell_grown hb23 y2; replace y3 := cell_grown hb23 y3; replace x0 := cell_grown hb23 x0; replace x1 := cell_grown hb23 x1; replace x2 := cell_grown hb23 x2; replace hS0 := hS0.grown hb23; replace hC0 := hC0.grown hb23; replace hRI2 := hRI2.grown hb23; replace hT := hT.grown hb23; replace hAI := hAI.grown hb23; replace hOI := hOI.grown hb23; replace HB := hid (HB.out.trans (hb23.mono HB.out.size))
            clear hb23
            cases hv : ((List.range vn).all fun k => rotaOk due delay C T (RZ.map Int.toNat) k)
            · have HV : Hid (rightM (howOf due delay C T) (RZ.map Int.toNat) 0 [0, 0, 0, 0, 0] = false) := hid (by rw [← HRM.out]; exact hv)
              clear hv HRM
              obtain ⟨her, han, hon⟩ := relief_code HREL.out (E := 9) (by rw [HRC.out, HST.out, HV.out]; rfl) (by omega)
              subst her
              rw [han] at hAl
              rw [hon] at hOl
              subst han
              subst hon
              clear HREL hAI hOI
              go_wp2_with fail
              refine (awake_any w23).mono ?_
              rintro e w' ⟨rfl, hb⟩
              go_wp2
              go_ret
              exact ⟨rfl, HB.out.trans (hb.mono HB.out.size)⟩
            · have HV : Hid (rightM (howOf due delay C T) (RZ.map Int.toNat) 0 [0, 0, 0, 0, 0] = true) := hid (by rw [← HRM.out]; exact hv)
              clear hv HRM
              have hcw : IntKind.i64.wrap ((m : Int) - 1) = (m : Int) - 1 := by rw [IntKind.wrap_i64]; omega
              go_wp2_with fail
              refine (in_any rp 0 ((m : Int) - 1) w23).mono ?_
              rintro e w24 ⟨rfl, rfl⟩
              cases hw1 : inB rp 0 ((m : Int) - 1)
              · have HW1 := hid hw1
                clear hw1
                obtain ⟨her, han, hon⟩ := relief_code HREL.out (E := 2) (by rw [HRC.out, HST.out, HV.out, HW1.out]; simp) (by omega)
                subst her
                rw [han] at hAl
                rw [hon] at hOl
                subst han
                subst hon
                clear HREL hAI hOI
                go_wp2_with fail
                refine (awake_any w23).mono ?_
                rintro e w' ⟨rfl, hb⟩
                go_wp2
                go_ret
                exact ⟨rfl, HB.out.trans (hb.mono HB.out.size)⟩
              · have HW1 := hid hw1
                have hrb : 0 ≤ rp ∧ rp ≤ (m : Int) - 1 := by simpa [inB] using hw1
                obtain ⟨rel, hrel⟩ : ∃ rn : Nat, rp = (rn : Int) := ⟨rp.toNat, by omega⟩
                subst hrel
                have hrelm : rel < m := by omega
                clear hw1 hrb
                go_wp2_with fail
                refine (in_any sec 0 len w23).mono ?_
                rintro e w24 ⟨rfl, rfl⟩
                cases hw2 : inB sec 0 len
                · have HW2 := hid hw2
                  clear hw2
                  obtain ⟨her, han, hon⟩ := relief_code HREL.out (E := 2) (by rw [HRC.out, HST.out, HV.out, HW1.out, HW2.out]; simp) (by omega)
                  subst her
                  rw [han] at hAl
                  rw [hon] at hOl
                  subst han
                  subst hon
                  clear HREL hAI hOI
                  go_wp2_with fail
                  refine (awake_any w23).mono ?_
                  rintro e w' ⟨rfl, hb⟩
                  go_wp2
                  go_ret
                  exact ⟨rfl, HB.out.trans (hb.mono HB.out.size)⟩
                · have HEZ : Hid (reliefErr len long short due delay L C RZ (rel : Int) sec = 0) := hid (by rw [HRC.out, HST.out, HV.out, HW1.out, hw2]; simp)
                  have HRP : Hid ((howOf due delay C T).path R 0 [0, 0, 0, 0, 0]) := hid (by
                    have h1 := HV.out
                    rw [HRZ.out, map_map_nat] at h1
                    refine (right_path R 0 _ ?_ ?_).1 h1
                    · rw [Nat.zero_add, HRl.out]; exact Nat.le_of_eq HTN.out.symm
                    · intro r hr
                      obtain ⟨i, hi, rfl⟩ := List.mem_iff_getElem.1 hr
                      have := HRlt.out i (by rw [← HRl.out]; exact hi)
                      rw [List.getD_eq_getElem?_getD, List.getElem?_eq_getElem hi, Option.getD_some] at this
                      show _ < C.length
                      rw [HC.out]
                      exact this)
                  have HR2 : Hid (R.length = T.length) := hid (by rw [HRl.out, HTN.out])
                  have hrl := relief_live HREL.out HEZ.out
                  rw [HRZ.out, map_map_nat, Int.toNat_natCast] at hrl
                  obtain ⟨nb, hnb⟩ := before_ex T sec
                  have hnbn : nb ≤ vn := by rw [← HTN.out]; exact hnb.1
                  have HNB := hid hnb
                  have HLIVE := hid hrl
                  have HRT : Hid ((R.take nb).length = nb) := hid (by rw [List.length_take, HRl.out]; omega)
                  have HRB : Hid (∀ j, j < nb → (R.take nb).getD j 0 < m) := hid (fun j hj => by rw [nat_take hj]; exact HRlt.out j (by omega))
                  have HZT : Hid (RZ.take nb = (R.take nb).map fun r : Nat => (r : Int)) := hid (by rw [HRZ.out, List.map_take])
                  have hnbi : (nb : Int) ≤ rzc := by omega
                  have hnb0 : (0 : Int) ≤ nb := by omega
                  have hnbt : (nb : Int).toNat = nb := by omega
                  have hBd : Below w23.heap.size w23 w23.drew := (Below.refl _ _).drew
                  clear hw2 hnb hrl HREL HRC HEZ HV HST HW1
                  go_wp2_with fail
                  go_region_held3 (fun w' : World => w'.cell? ⟨w.heap.size, 0, none⟩ = some (.int .i64 len) ∧ w'.cell? ⟨w.heap.size, 1, none⟩ = some (.slice a n cap) ∧ w'.cell? ⟨w.heap.size, 2, none⟩ = some (.int .i64 long) ∧ w'.cell? ⟨w.heap.size, 3, none⟩ = some (.int .i64 short) ∧ w'.cell? ⟨w.heap.size + 1, 0, none⟩ = some (.slice ca m cc) ∧ w'.cell? ⟨w.heap.size + 1, 1, none⟩ = some (.int .i64 due) ∧ w'.cell? ⟨w.heap.size + 1, 2, none⟩ = some (.int .i64 delay)) (exact ⟨y0, y1, y2, y3, x0, x1, x2⟩) (first | (go_at_call 44; replace y0 := cell_grown hBd y0; replace y1 := cell_grown hBd y1; replace y2 := cell_grown hBd y2; replace y3 := cell_grown hBd y3; replace x0 := cell_grown hBd x0; replace x1 := cell_grown hBd x1; replace x2 := cell_grown hBd x2; replace hS0 := hS0.grown hBd; replace hC0 := hC0.grown hBd; replace hRI2 := hRI2.grown hBd; replace hT := hT.grown hBd; replace hAI := hAI.grown hBd; replace hOI := hOI.grown hBd; replace HB := hid (HB.out.trans (hBd.mono HB.out.size)); refine (before_any T sec vn tc nb ta _ HTN.out (by omega) hT HNB.out).mono ?_; rintro e w25 ⟨rfl, hb25⟩; replace y0 := cell_grown hb25 y0; replace y1 := cell_grown hb25 y1; replace y2 := cell_grown hb25 y2; replace y3 := cell_grown hb25 y3; replace x0 := cell_grown hb25 x0; replace x1 := cell_grown hb25 x1; replace x2 := cell_grown hb25 x2; replace hS0 := hS0.grown hb25; replace hC0 := hC0.grown hb25; replace hRI2 := hRI2.grown hb25; replace hT := hT.grown hb25; replace hAI := hAI.grown hb25; replace hOI := hOI.grown hb25; replace HB := hid (HB.out.trans (hb25.mono HB.out.size))) | (go_at_call 32; refine (rotaR_any C T due delay (rel : Int) m cc vn tc ca ta HC.out hc5 HBC.out HTN.out (by omega) HTB.out hdueb hdelb (vn - nb) (R.take nb) nb _ _ _ (by omega) HRT.out HRB.out hC0 hT (ints_cut hRI2 HZT.out)).mono ?_; rintro e w26 ⟨hb26, hpost⟩; replace y0 := cell_grown hb26 y0; replace y1 := cell_grown hb26 y1; replace y2 := cell_grown hb26 y2; replace y3 := cell_grown hb26 y3; replace x0 := cell_grown hb26 x0; replace x1 := cell_grown hb26 x1; replace x2 := cell_grown hb26 x2; replace hS0 := hS0.grown hb26; replace hC0 := hC0.grown hb26; replace hRI2 := hRI2.grown hb26; replace hT := hT.grown hb26; replace hAI := hAI.grown hb26; replace hOI := hOI.grown hb26; replace HB := hid (HB.out.trans (hb26.mono HB.out.size)); obtain ⟨xa, xn, xc, is, X, rfl, hXn, hIX, HIS⟩ := rota_out hpost))
                  clear hpost hBd hb25 hb26 hnbi hnb0 hnbt
                  cases is
                  · have hd : dfs (okM (rel : Int) due delay C T) m (vn - nb) (R.take nb) = none := by have := HIS.out; simpa using this
                    rcases HLIVE.out with ⟨her, han, hon, _⟩ | ⟨_, hbest, _⟩
                    · rw [han] at hAl
                      rw [hon] at hOl
                      subst her
                      subst han
                      subst hon
                      clear hd HIS HLIVE hAI hOI hIX
                      go_wp2_with fail
                      refine (awake_any w26).mono ?_
                      rintro e w' ⟨rfl, hb⟩
                      go_wp2
                      go_ret
                      exact ⟨rfl, HB.out.trans (hb.mono HB.out.size)⟩
                    · exact (relief_none HA0.out (by rw [HC.out]; exact hc5) HNB.out HR2.out HRP.out (by rw [HC.out, HTN.out]; exact hd) hbest).elim
                  · have hd : dfs (okM (rel : Int) due delay C T) m (vn - nb) (R.take nb) = some X := by have := HIS.out; simpa using this
                    obtain ⟨hs1, hs2⟩ := relief_some HA0.out (by rw [HC.out]; exact hc5) HNB.out HR2.out HRP.out (by rw [HC.out, HTN.out]; exact hd)
                    rcases HLIVE.out with ⟨_, _, _, rc0, hdead⟩ | ⟨her, hbest, s, hsd, hO⟩
                    · exact (hs2 rc0 hdead).elim
                    · have hAX := hs1 A hbest
                      subst her
                      subst hAX
                      have hxa : xn = an := by omega
                      subst hxa
                      have hx8 : xn ≤ 8 := by
                        have h1 := hbest.2.1
                        have h2 : (howW rel sec R due delay C T).tn = T.length := rfl
                        have h3 := HTN.out
                        omega
                      rw [open_before HA0.out HNB.out s] at hO
                      have hon8 : on ≤ 8 := by
                        rw [← hOl, hO]
                        exact Nat.le_trans (openM_le ..) (by omega)
                      have HOO := hid hO
                      have HSD := hid hsd
                      have hIR : Ints w26 rz (R.map fun r : Nat => (r : Int)) := by have := hRI2; rw [HRZ.out] at this; exact this
                      clear hd hbest HIS HLIVE hs1 hs2 hO hsd hRI2
                      go_wp2_with fail
                      refine (ints_any _ _ xn xn ac xc aa xa w26 (by rw [List.length_map]; exact hAl) (by rw [List.length_map]; exact hAl) (by unfold maxLen; omega) (by unfold maxLen; omega) hAI hIX).mono ?_
                      rw [decide_eq_true rfl]
                      rintro e w27 ⟨rfl, hb27⟩
                      replace y0 := cell_grown hb27 y0; replace y1 := cell_grown hb27 y1; replace y2 := cell_grown hb27 y2; replace y3 := cell_grown hb27 y3; replace x0 := cell_grown hb27 x0; replace x1 := cell_grown hb27 x1; replace x2 := cell_grown hb27 x2; replace hS0 := hS0.grown hb27; replace hC0 := hC0.grown hb27; replace hIR := hIR.grown hb27; replace hT := hT.grown hb27; replace hOI := hOI.grown hb27; replace HB := hid (HB.out.trans (hb27.mono HB.out.size))
                      clear hb27 hAI hIX
                      go_wp2_with fail
                      refine (openR_any C T R s due delay sec rel nb m cc vn tc rzc ca ta rz w27 HSD.out HC.out hc5 HBC.out HTN.out (by omega) HTB.out hdelb hC0 hT HRl.out hIR hrelm HNB.out).mono ?_
                      rintro e w28 ⟨va2, vn2, vc2, rfl, hvl, hvI, hb28⟩
                      rw [← HOO.out] at hvl hvI
                      replace y0 := cell_grown hb28 y0; replace y1 := cell_grown hb28 y1; replace y2 := cell_grown hb28 y2; replace y3 := cell_grown hb28 y3; replace x0 := cell_grown hb28 x0; replace x1 := cell_grown hb28 x1; replace x2 := cell_grown hb28 x2; replace hS0 := hS0.grown hb28; replace hC0 := hC0.grown hb28; replace hOI := hOI.grown hb28; replace HB := hid (HB.out.trans (hb28.mono HB.out.size))
                      clear hb28 hIR
                      have hvo : vn2 = on := by omega
                      subst hvo
                      go_wp2_with fail
                      refine (ints_any _ _ vn2 vn2 oc vc2 oa va2 w28 (by rw [List.length_map]; exact hOl) (by rw [List.length_map]; exact hOl) (by unfold maxLen; omega) (by unfold maxLen; omega) hOI hvI).mono ?_
                      rw [decide_eq_true rfl]
                      rintro e w29 ⟨rfl, hb29⟩
                      replace y0 := cell_grown hb29 y0; replace y1 := cell_grown hb29 y1; replace y2 := cell_grown hb29 y2; replace y3 := cell_grown hb29 y3; replace x0 := cell_grown hb29 x0; replace x1 := cell_grown hb29 x1; replace x2 := cell_grown hb29 x2; replace hS0 := hS0.grown hb29; replace hC0 := hC0.grown hb29; replace HB := hid (HB.out.trans (hb29.mono HB.out.size))
                      clear hb29 hOI hvI
                      go_wp2_with fail
                      refine (awake_any w29).mono ?_
                      rintro e w' ⟨rfl, hb⟩
                      go_wp2
                      go_ret
                      exact ⟨rfl, HB.out.trans (hb.mono HB.out.size)⟩
        · subst her
          clear hRnil hRn hRI HRO
          have hBd : Below w10.heap.size w10 w10.drew := (Below.refl _ _).drew
          go_wp2_with fail
          go_region_held3 (fun w' : World => w'.cell? ⟨w.heap.size, 0, none⟩ = some (.int .i64 len) ∧ w'.cell? ⟨w.heap.size, 1, none⟩ = some (.slice a n cap) ∧ w'.cell? ⟨w.heap.size, 2, none⟩ = some (.int .i64 long) ∧ w'.cell? ⟨w.heap.size, 3, none⟩ = some (.int .i64 short) ∧ w'.cell? ⟨w.heap.size + 1, 0, none⟩ = some (.slice ca m cc) ∧ w'.cell? ⟨w.heap.size + 1, 1, none⟩ = some (.int .i64 due) ∧ w'.cell? ⟨w.heap.size + 1, 2, none⟩ = some (.int .i64 delay)) (exact ⟨y0, y1, y2, y3, x0, x1, x2⟩) (first | (go_at_call 18; replace y0 := cell_grown hBd y0; replace y1 := cell_grown hBd y1; replace y2 := cell_grown hBd y2; replace y3 := cell_grown hBd y3; replace x0 := cell_grown hBd x0; replace x1 := cell_grown hBd x1; replace x2 := cell_grown hBd x2; replace hS0 := hS0.grown hBd; replace hC0 := hC0.grown hBd; replace hI0 := hI0.grown hBd; replace HB := hid (HB.out.trans (hBd.mono HB.out.size)); refine (sitting_any L len long short n cap a _ HL.out hn60 hS0).mono ?_; rintro e w2 ⟨ra, rc, rfl, hSr, hb2⟩; replace y0 := cell_grown hb2 y0; replace y1 := cell_grown hb2 y1; replace y2 := cell_grown hb2 y2; replace y3 := cell_grown hb2 y3; replace x0 := cell_grown hb2 x0; replace x1 := cell_grown hb2 x1; replace x2 := cell_grown hb2 x2; replace hS0 := hS0.grown hb2; replace hC0 := hC0.grown hb2; replace hI0 := hI0.grown hb2; replace HB := hid (HB.out.trans (hb2.mono HB.out.size))) | (go_at_call 20; refine (office_any C due delay m cc _ _ HC.out (by omega) hC0).mono ?_; rintro e w3 ⟨rb, rd, rfl, hCr3, hb3⟩; replace y0 := cell_grown hb3 y0; replace y1 := cell_grown hb3 y1; replace y2 := cell_grown hb3 y2; replace y3 := cell_grown hb3 y3; replace x0 := cell_grown hb3 x0; replace x1 := cell_grown hb3 x1; replace x2 := cell_grown hb3 x2; replace hS0 := hS0.grown hb3; replace hC0 := hC0.grown hb3; replace hI0 := hI0.grown hb3; replace hSr := hSr.grown hb3; replace HB := hid (HB.out.trans (hb3.mono HB.out.size))) | (go_at_call 35; refine (list_free Z zn zc za _ HZ.out (by omega) hI0).mono ?_; rintro e w5 ⟨vz, rfl, hownz, hb5⟩; obtain ⟨rz2, rzc2, rfl⟩ := owns_shape hownz; have hIz2 := ints_of_owns1 HZ.out hownz; replace y0 := cell_grown hb5 y0; replace y1 := cell_grown hb5 y1; replace y2 := cell_grown hb5 y2; replace y3 := cell_grown hb5 y3; replace x0 := cell_grown hb5 x0; replace x1 := cell_grown hb5 x1; replace x2 := cell_grown hb5 x2; replace hS0 := hS0.grown hb5; replace hC0 := hC0.grown hb5; replace hSr := hSr.grown hb5; replace hCr3 := hCr3.grown hb5; replace hI0 := hI0.grown hb5; replace HB := hid (HB.out.trans (hb5.mono HB.out.size))) | (go_at_call 43; refine (relieve_any L len long short due delay C Z rp sec n rc m rd zn rzc2 ra rb rz2 _ HL.out hn hSr HC.out hm hCr3 HZ.out (by unfold maxLen; omega) hIz2).mono ?_; intro e w20 hpost; obtain ⟨hb20, aa, oa, an, ac, on, oc, er2, A, O, rfl, hAl, hOl, hAI, hOI, HREL⟩ := relief_form hpost; replace y0 := cell_grown hb20 y0; replace y1 := cell_grown hb20 y1; replace y2 := cell_grown hb20 y2; replace y3 := cell_grown hb20 y3; replace x0 := cell_grown hb20 x0; replace x1 := cell_grown hb20 x1; replace x2 := cell_grown hb20 x2; replace hS0 := hS0.grown hb20; replace hC0 := hC0.grown hb20; replace hI0 := hI0.grown hb20; replace HB := hid (HB.out.trans (hb20.mono HB.out.size))))
          clear hpost hb2 hb3 hb5 hb20 hSr hCr3 hBd hIz2 hownz
          go_wp2_with fail
          refine (takesR_own L len long short n cap a w20 HL.out hn60 hS0 HOK.out).mono ?_
          rintro e w21 ⟨ta, tc, rfl, -, hb21, hT, htc⟩
          replace y0 := cell_grown hb21 y0; replace y1 := cell_grown hb21 y1; replace y2 := cell_grown hb21 y2; replace y3 := cell_grown hb21 y3; replace x0 := cell_grown hb21 x0; replace x1 := cell_grown hb21 x1; replace x2 := cell_grown hb21 x2; replace hS0 := hS0.grown hb21; replace hC0 := hC0.grown hb21; replace hI0 := hI0.grown hb21; replace hAI := hAI.grown hb21; replace hOI := hOI.grown hb21; replace HB := hid (HB.out.trans (hb21.mono HB.out.size))
          clear hb21
          have HRC := hid (relief_chain HFV.out (Z := Z) (rp := rp) (sec := sec))
          obtain ⟨T, hTT⟩ : ∃ T, (takesOf len long short L) = T := ⟨_, rfl⟩
          rw [hTT] at hT htc HTB HA0 h8 HREL HRC ⊢
          obtain ⟨tn, htn⟩ : ∃ tn, T.length = tn := ⟨_, rfl⟩
          have HTN := hid htn
          rw [htn] at htc HTB h8 HRC ⊢
          rw [HC.out] at HRC
          clear hTT htn
          go_wp2_with fail
          refine (listed_any Z due delay ca ta za m cc tn tc zn zc w21 HZ.out (by omega) hI0 (by omega) (by omega)).mono ?_
          rintro e w22 ⟨rfl, hb22⟩
          replace y0 := cell_grown hb22 y0; replace y1 := cell_grown hb22 y1; replace y2 := cell_grown hb22 y2; replace y3 := cell_grown hb22 y3; replace x0 := cell_grown hb22 x0; replace x1 := cell_grown hb22 x1; replace x2 := cell_grown hb22 x2; replace hS0 := hS0.grown hb22; replace hC0 := hC0.grown hb22; replace hI0 := hI0.grown hb22; replace hT := hT.grown hb22; replace hAI := hAI.grown hb22; replace hOI := hOI.grown hb22; replace HB := hid (HB.out.trans (hb22.mono HB.out.size))
          clear hb22
          cases hst : staffsM m tn Z
          · have HST := hid hst
            clear hst
            obtain ⟨her, han, hon⟩ := relief_code HREL.out (E := 2) (by rw [HRC.out, HST.out]; rfl) (by omega)
            subst her
            rw [han] at hAl
            rw [hon] at hOl
            subst han
            subst hon
            clear HREL hAI hOI
            go_wp2_with fail
            refine (awake_any w22).mono ?_
            rintro e w' ⟨rfl, hb⟩
            go_wp2
            go_ret
            exact ⟨rfl, HB.out.trans (hb.mono HB.out.size)⟩
          · have HST := hid hst
            have hzt : zn = tn := by rw [← HZ.out]; exact (staffs_at hst).1
            subst hzt
            obtain ⟨R, hRZ, hRl, hRlt⟩ := staffs_nat hst HZ.out
            have HRZ := hid hRZ
            have HRl := hid hRl
            have HRlt := hid hRlt
            clear hst hRZ hRl hRlt
            go_wp2_with fail
            refine (isRota_any C T Z due delay m cc zn tc zc ca ta za w22 HC.out hc5 hC0 HBC.out HTN.out (by omega) hT HTB.out HZ.out hI0 hzc (fun j hj => (staffs_at HST.out).2 j (by rw [HZ.out]; exact hj)) hdueb hdelb).mono ?_
            have HRM : Hid (((List.range zn).all fun k => rotaOk due delay C T (Z.map Int.toNat) k) = rightM (howOf due delay C T) (Z.map Int.toNat) 0 [0, 0, 0, 0, 0]) := hid (by
              have h1 := right_rota (due := due) (delay := delay) (C := C) (R := Z.map Int.toNat) HA0.out (by rw [List.length_map, HZ.out, HTN.out]) (fun j hj => by
                rw [HRZ.out, map_map_nat]
                have := HRlt.out j (by rw [List.length_map, HZ.out] at hj; exact hj)
                omega)
              rw [h1, List.length_map, HZ.out])
            rintro e w23 ⟨rfl, hb23⟩
            replace y0 := cell_grown hb23 y0; replace y1 := cell_grown hb23 y1; replace y2 := cell_grown hb23 y2; replace y3 := cell_grown hb23 y3; replace x0 := cell_grown hb23 x0; replace x1 := cell_grown hb23 x1; replace x2 := cell_grown hb23 x2; replace hS0 := hS0.grown hb23; replace hC0 := hC0.grown hb23; replace hI0 := hI0.grown hb23; replace hT := hT.grown hb23; replace hAI := hAI.grown hb23; replace hOI := hOI.grown hb23; replace HB := hid (HB.out.trans (hb23.mono HB.out.size))
            clear hb23
            cases hv : ((List.range zn).all fun k => rotaOk due delay C T (Z.map Int.toNat) k)
            · have HV : Hid (rightM (howOf due delay C T) (Z.map Int.toNat) 0 [0, 0, 0, 0, 0] = false) := hid (by rw [← HRM.out]; exact hv)
              clear hv HRM
              obtain ⟨her, han, hon⟩ := relief_code HREL.out (E := 9) (by rw [HRC.out, HST.out, HV.out]; rfl) (by omega)
              subst her
              rw [han] at hAl
              rw [hon] at hOl
              subst han
              subst hon
              clear HREL hAI hOI
              go_wp2_with fail
              refine (awake_any w23).mono ?_
              rintro e w' ⟨rfl, hb⟩
              go_wp2
              go_ret
              exact ⟨rfl, HB.out.trans (hb.mono HB.out.size)⟩
            · have HV : Hid (rightM (howOf due delay C T) (Z.map Int.toNat) 0 [0, 0, 0, 0, 0] = true) := hid (by rw [← HRM.out]; exact hv)
              clear hv HRM
              have hcw : IntKind.i64.wrap ((m : Int) - 1) = (m : Int) - 1 := by rw [IntKind.wrap_i64]; omega
              go_wp2_with fail
              refine (in_any rp 0 ((m : Int) - 1) w23).mono ?_
              rintro e w24 ⟨rfl, rfl⟩
              cases hw1 : inB rp 0 ((m : Int) - 1)
              · have HW1 := hid hw1
                clear hw1
                obtain ⟨her, han, hon⟩ := relief_code HREL.out (E := 2) (by rw [HRC.out, HST.out, HV.out, HW1.out]; simp) (by omega)
                subst her
                rw [han] at hAl
                rw [hon] at hOl
                subst han
                subst hon
                clear HREL hAI hOI
                go_wp2_with fail
                refine (awake_any w23).mono ?_
                rintro e w' ⟨rfl, hb⟩
                go_wp2
                go_ret
                exact ⟨rfl, HB.out.trans (hb.mono HB.out.size)⟩
              · have HW1 := hid hw1
                have hrb : 0 ≤ rp ∧ rp ≤ (m : Int) - 1 := by simpa [inB] using hw1
                obtain ⟨rel, hrel⟩ : ∃ rn : Nat, rp = (rn : Int) := ⟨rp.toNat, by omega⟩
                subst hrel
                have hrelm : rel < m := by omega
                clear hw1 hrb
                go_wp2_with fail
                refine (in_any sec 0 len w23).mono ?_
                rintro e w24 ⟨rfl, rfl⟩
                cases hw2 : inB sec 0 len
                · have HW2 := hid hw2
                  clear hw2
                  obtain ⟨her, han, hon⟩ := relief_code HREL.out (E := 2) (by rw [HRC.out, HST.out, HV.out, HW1.out, HW2.out]; simp) (by omega)
                  subst her
                  rw [han] at hAl
                  rw [hon] at hOl
                  subst han
                  subst hon
                  clear HREL hAI hOI
                  go_wp2_with fail
                  refine (awake_any w23).mono ?_
                  rintro e w' ⟨rfl, hb⟩
                  go_wp2
                  go_ret
                  exact ⟨rfl, HB.out.trans (hb.mono HB.out.size)⟩
                · have HEZ : Hid (reliefErr len long short due delay L C Z (rel : Int) sec = 0) := hid (by rw [HRC.out, HST.out, HV.out, HW1.out, hw2]; simp)
                  have HRP : Hid ((howOf due delay C T).path R 0 [0, 0, 0, 0, 0]) := hid (by
                    have h1 := HV.out
                    rw [HRZ.out, map_map_nat] at h1
                    refine (right_path R 0 _ ?_ ?_).1 h1
                    · rw [Nat.zero_add, HRl.out]; exact Nat.le_of_eq HTN.out.symm
                    · intro r hr
                      obtain ⟨i, hi, rfl⟩ := List.mem_iff_getElem.1 hr
                      have := HRlt.out i (by rw [← HRl.out]; exact hi)
                      rw [List.getD_eq_getElem?_getD, List.getElem?_eq_getElem hi, Option.getD_some] at this
                      show _ < C.length
                      rw [HC.out]
                      exact this)
                  have HR2 : Hid (R.length = T.length) := hid (by rw [HRl.out, HTN.out])
                  have hrl := relief_live HREL.out HEZ.out
                  rw [HRZ.out, map_map_nat, Int.toNat_natCast] at hrl
                  obtain ⟨nb, hnb⟩ := before_ex T sec
                  have hnbn : nb ≤ zn := by rw [← HTN.out]; exact hnb.1
                  have HNB := hid hnb
                  have HLIVE := hid hrl
                  have HRT : Hid ((R.take nb).length = nb) := hid (by rw [List.length_take, HRl.out]; omega)
                  have HRB : Hid (∀ j, j < nb → (R.take nb).getD j 0 < m) := hid (fun j hj => by rw [nat_take hj]; exact HRlt.out j (by omega))
                  have HZT : Hid (Z.take nb = (R.take nb).map fun r : Nat => (r : Int)) := hid (by rw [HRZ.out, List.map_take])
                  have hnbi : (nb : Int) ≤ zc := by omega
                  have hnb0 : (0 : Int) ≤ nb := by omega
                  have hnbt : (nb : Int).toNat = nb := by omega
                  have hBd : Below w23.heap.size w23 w23.drew := (Below.refl _ _).drew
                  clear hw2 hnb hrl HREL HRC HEZ HV HST HW1
                  go_wp2_with fail
                  go_region_held3 (fun w' : World => w'.cell? ⟨w.heap.size, 0, none⟩ = some (.int .i64 len) ∧ w'.cell? ⟨w.heap.size, 1, none⟩ = some (.slice a n cap) ∧ w'.cell? ⟨w.heap.size, 2, none⟩ = some (.int .i64 long) ∧ w'.cell? ⟨w.heap.size, 3, none⟩ = some (.int .i64 short) ∧ w'.cell? ⟨w.heap.size + 1, 0, none⟩ = some (.slice ca m cc) ∧ w'.cell? ⟨w.heap.size + 1, 1, none⟩ = some (.int .i64 due) ∧ w'.cell? ⟨w.heap.size + 1, 2, none⟩ = some (.int .i64 delay)) (exact ⟨y0, y1, y2, y3, x0, x1, x2⟩) (first | (go_at_call 44; replace y0 := cell_grown hBd y0; replace y1 := cell_grown hBd y1; replace y2 := cell_grown hBd y2; replace y3 := cell_grown hBd y3; replace x0 := cell_grown hBd x0; replace x1 := cell_grown hBd x1; replace x2 := cell_grown hBd x2; replace hS0 := hS0.grown hBd; replace hC0 := hC0.grown hBd; replace hI0 := hI0.grown hBd; replace hT := hT.grown hBd; replace hAI := hAI.grown hBd; replace hOI := hOI.grown hBd; replace HB := hid (HB.out.trans (hBd.mono HB.out.size)); refine (before_any T sec zn tc nb ta _ HTN.out (by omega) hT HNB.out).mono ?_; rintro e w25 ⟨rfl, hb25⟩; replace y0 := cell_grown hb25 y0; replace y1 := cell_grown hb25 y1; replace y2 := cell_grown hb25 y2; replace y3 := cell_grown hb25 y3; replace x0 := cell_grown hb25 x0; replace x1 := cell_grown hb25 x1; replace x2 := cell_grown hb25 x2; replace hS0 := hS0.grown hb25; replace hC0 := hC0.grown hb25; replace hI0 := hI0.grown hb25; replace hT := hT.grown hb25; replace hAI := hAI.grown hb25; replace hOI := hOI.grown hb25; replace HB := hid (HB.out.trans (hb25.mono HB.out.size))) | (go_at_call 32; refine (rotaR_any C T due delay (rel : Int) m cc zn tc ca ta HC.out hc5 HBC.out HTN.out (by omega) HTB.out hdueb hdelb (zn - nb) (R.take nb) nb _ _ _ (by omega) HRT.out HRB.out hC0 hT (ints_cut hI0 HZT.out)).mono ?_; rintro e w26 ⟨hb26, hpost⟩; replace y0 := cell_grown hb26 y0; replace y1 := cell_grown hb26 y1; replace y2 := cell_grown hb26 y2; replace y3 := cell_grown hb26 y3; replace x0 := cell_grown hb26 x0; replace x1 := cell_grown hb26 x1; replace x2 := cell_grown hb26 x2; replace hS0 := hS0.grown hb26; replace hC0 := hC0.grown hb26; replace hI0 := hI0.grown hb26; replace hT := hT.grown hb26; replace hAI := hAI.grown hb26; replace hOI := hOI.grown hb26; replace HB := hid (HB.out.trans (hb26.mono HB.out.size)); obtain ⟨xa, xn, xc, is, X, rfl, hXn, hIX, HIS⟩ := rota_out hpost))
                  clear hpost hBd hb25 hb26 hnbi hnb0 hnbt
                  cases is
                  · have hd : dfs (okM (rel : Int) due delay C T) m (zn - nb) (R.take nb) = none := by have := HIS.out; simpa using this
                    rcases HLIVE.out with ⟨her, han, hon, _⟩ | ⟨_, hbest, _⟩
                    · rw [han] at hAl
                      rw [hon] at hOl
                      subst her
                      subst han
                      subst hon
                      clear hd HIS HLIVE hAI hOI hIX
                      go_wp2_with fail
                      refine (awake_any w26).mono ?_
                      rintro e w' ⟨rfl, hb⟩
                      go_wp2
                      go_ret
                      exact ⟨rfl, HB.out.trans (hb.mono HB.out.size)⟩
                    · exact (relief_none HA0.out (by rw [HC.out]; exact hc5) HNB.out HR2.out HRP.out (by rw [HC.out, HTN.out]; exact hd) hbest).elim
                  · have hd : dfs (okM (rel : Int) due delay C T) m (zn - nb) (R.take nb) = some X := by have := HIS.out; simpa using this
                    obtain ⟨hs1, hs2⟩ := relief_some HA0.out (by rw [HC.out]; exact hc5) HNB.out HR2.out HRP.out (by rw [HC.out, HTN.out]; exact hd)
                    rcases HLIVE.out with ⟨_, _, _, rc0, hdead⟩ | ⟨her, hbest, s, hsd, hO⟩
                    · exact (hs2 rc0 hdead).elim
                    · have hAX := hs1 A hbest
                      subst her
                      subst hAX
                      have hxa : xn = an := by omega
                      subst hxa
                      have hx8 : xn ≤ 8 := by
                        have h1 := hbest.2.1
                        have h2 : (howW rel sec R due delay C T).tn = T.length := rfl
                        have h3 := HTN.out
                        omega
                      rw [open_before HA0.out HNB.out s] at hO
                      have hon8 : on ≤ 8 := by
                        rw [← hOl, hO]
                        exact Nat.le_trans (openM_le ..) (by omega)
                      have HOO := hid hO
                      have HSD := hid hsd
                      have hIR : Ints w26 za (R.map fun r : Nat => (r : Int)) := by have := hI0; rw [HRZ.out] at this; exact this
                      clear hd hbest HIS HLIVE hs1 hs2 hO hsd hI0
                      go_wp2_with fail
                      refine (ints_any _ _ xn xn ac xc aa xa w26 (by rw [List.length_map]; exact hAl) (by rw [List.length_map]; exact hAl) (by unfold maxLen; omega) (by unfold maxLen; omega) hAI hIX).mono ?_
                      rw [decide_eq_true rfl]
                      rintro e w27 ⟨rfl, hb27⟩
                      replace y0 := cell_grown hb27 y0; replace y1 := cell_grown hb27 y1; replace y2 := cell_grown hb27 y2; replace y3 := cell_grown hb27 y3; replace x0 := cell_grown hb27 x0; replace x1 := cell_grown hb27 x1; replace x2 := cell_grown hb27 x2; replace hS0 := hS0.grown hb27; replace hC0 := hC0.grown hb27; replace hIR := hIR.grown hb27; replace hT := hT.grown hb27; replace hOI := hOI.grown hb27; replace HB := hid (HB.out.trans (hb27.mono HB.out.size))
                      clear hb27 hAI hIX
                      go_wp2_with fail
                      refine (openR_any C T R s due delay sec rel nb m cc zn tc zc ca ta za w27 HSD.out HC.out hc5 HBC.out HTN.out (by omega) HTB.out hdelb hC0 hT HRl.out hIR hrelm HNB.out).mono ?_
                      rintro e w28 ⟨va2, vn2, vc2, rfl, hvl, hvI, hb28⟩
                      rw [← HOO.out] at hvl hvI
                      replace y0 := cell_grown hb28 y0; replace y1 := cell_grown hb28 y1; replace y2 := cell_grown hb28 y2; replace y3 := cell_grown hb28 y3; replace x0 := cell_grown hb28 x0; replace x1 := cell_grown hb28 x1; replace x2 := cell_grown hb28 x2; replace hS0 := hS0.grown hb28; replace hC0 := hC0.grown hb28; replace hOI := hOI.grown hb28; replace HB := hid (HB.out.trans (hb28.mono HB.out.size))
                      clear hb28 hIR
                      have hvo : vn2 = on := by omega
                      subst hvo
                      go_wp2_with fail
                      refine (ints_any _ _ vn2 vn2 oc vc2 oa va2 w28 (by rw [List.length_map]; exact hOl) (by rw [List.length_map]; exact hOl) (by unfold maxLen; omega) (by unfold maxLen; omega) hOI hvI).mono ?_
                      rw [decide_eq_true rfl]
                      rintro e w29 ⟨rfl, hb29⟩
                      replace y0 := cell_grown hb29 y0; replace y1 := cell_grown hb29 y1; replace y2 := cell_grown hb29 y2; replace y3 := cell_grown hb29 y3; replace x0 := cell_grown hb29 x0; replace x1 := cell_grown hb29 x1; replace x2 := cell_grown hb29 x2; replace hS0 := hS0.grown hb29; replace hC0 := hC0.grown hb29; replace HB := hid (HB.out.trans (hb29.mono HB.out.size))
                      clear hb29 hOI hvI
                      go_wp2_with fail
                      refine (awake_any w29).mono ?_
                      rintro e w' ⟨rfl, hb⟩
                      go_wp2
                      go_ret
                      exact ⟨rfl, HB.out.trans (hb.mono HB.out.size)⟩
    · obtain ⟨x, hx⟩ : ∃ x, faultM len long short due delay L C = x := ⟨_, rfl⟩
      rw [hx] at hfz ⊢
      have HFX : Hid (faultM len long short due delay L C = x ∧ x ≠ 0) := hid ⟨hx, hfz⟩
      have hfb : (x == 0) = false := by simpa using hfz
      clear hfew hx
      have hBd : Below w4.heap.size w4 w4.drew := (Below.refl _ _).drew
      cases own
      all_goals
        go_wp2_with fail
        go_region_held3 (fun w' : World => w'.cell? ⟨w.heap.size, 0, none⟩ = some (.int .i64 len) ∧ w'.cell? ⟨w.heap.size, 1, none⟩ = some (.slice a n cap) ∧ w'.cell? ⟨w.heap.size, 2, none⟩ = some (.int .i64 long) ∧ w'.cell? ⟨w.heap.size, 3, none⟩ = some (.int .i64 short) ∧ w'.cell? ⟨w.heap.size + 1, 0, none⟩ = some (.slice ca m cc) ∧ w'.cell? ⟨w.heap.size + 1, 1, none⟩ = some (.int .i64 due) ∧ w'.cell? ⟨w.heap.size + 1, 2, none⟩ = some (.int .i64 delay)) (exact ⟨y0, y1, y2, y3, x0, x1, x2⟩) (first | (go_at_call 18; replace y0 := cell_grown hBd y0; replace y1 := cell_grown hBd y1; replace y2 := cell_grown hBd y2; replace y3 := cell_grown hBd y3; replace x0 := cell_grown hBd x0; replace x1 := cell_grown hBd x1; replace x2 := cell_grown hBd x2; replace hS0 := hS0.grown hBd; replace hC0 := hC0.grown hBd; replace hI0 := hI0.grown hBd; replace HB := hid (HB.out.trans (hBd.mono HB.out.size)); refine (sitting_any L len long short n cap a _ HL.out hn60 hS0).mono ?_; rintro e w2 ⟨ra, rc, rfl, hSr, hb2⟩; replace y0 := cell_grown hb2 y0; replace y1 := cell_grown hb2 y1; replace y2 := cell_grown hb2 y2; replace y3 := cell_grown hb2 y3; replace x0 := cell_grown hb2 x0; replace x1 := cell_grown hb2 x1; replace x2 := cell_grown hb2 x2; replace hS0 := hS0.grown hb2; replace hC0 := hC0.grown hb2; replace hI0 := hI0.grown hb2; replace HB := hid (HB.out.trans (hb2.mono HB.out.size))) | (go_at_call 20; refine (office_any C due delay m cc _ _ HC.out (by omega) hC0).mono ?_; rintro e w3 ⟨rb, rd, rfl, hCr3, hb3⟩; replace y0 := cell_grown hb3 y0; replace y1 := cell_grown hb3 y1; replace y2 := cell_grown hb3 y2; replace y3 := cell_grown hb3 y3; replace x0 := cell_grown hb3 x0; replace x1 := cell_grown hb3 x1; replace x2 := cell_grown hb3 x2; replace hS0 := hS0.grown hb3; replace hC0 := hC0.grown hb3; replace hI0 := hI0.grown hb3; replace hSr := hSr.grown hb3; replace HB := hid (HB.out.trans (hb3.mono HB.out.size))) | (go_at_call 35; refine (list_free Z zn zc za _ HZ.out (by omega) hI0).mono ?_; rintro e w5 ⟨vz, rfl, hownz, hb5⟩; obtain ⟨rz2, rzc2, rfl⟩ := owns_shape hownz; have hIz2 := ints_of_owns1 HZ.out hownz; replace y0 := cell_grown hb5 y0; replace y1 := cell_grown hb5 y1; replace y2 := cell_grown hb5 y2; replace y3 := cell_grown hb5 y3; replace x0 := cell_grown hb5 x0; replace x1 := cell_grown hb5 x1; replace x2 := cell_grown hb5 x2; replace hS0 := hS0.grown hb5; replace hC0 := hC0.grown hb5; replace hSr := hSr.grown hb5; replace hCr3 := hCr3.grown hb5; replace hI0 := hI0.grown hb5; replace HB := hid (HB.out.trans (hb5.mono HB.out.size))) | (go_at_call 43; refine (relieve_any L len long short due delay C Z rp sec n rc m rd zn rzc2 ra rb rz2 _ HL.out hn hSr HC.out hm hCr3 HZ.out (by unfold maxLen; omega) hIz2).mono ?_; intro e w20 hpost; obtain ⟨rfl, hb20⟩ := relief_bad hpost HFX.out; replace y0 := cell_grown hb20 y0; replace y1 := cell_grown hb20 y1; replace y2 := cell_grown hb20 y2; replace y3 := cell_grown hb20 y3; replace x0 := cell_grown hb20 x0; replace x1 := cell_grown hb20 x1; replace x2 := cell_grown hb20 x2; replace hS0 := hS0.grown hb20; replace hC0 := hC0.grown hb20; replace hI0 := hI0.grown hb20; replace HB := hid (HB.out.trans (hb20.mono HB.out.size))))
        clear hpost hb2 hb3 hb5 hb20 hSr hCr3 hBd hIz2 hownz
        go_wp2_with fail
        refine (awake_any w20).mono ?_
        rintro e w' ⟨rfl, hb⟩
        go_wp2
        go_ret
        exact ⟨rfl, HB.out.trans (hb.mono HB.out.size)⟩

end Go.Proofs.Ytgapbaelifcifaa
