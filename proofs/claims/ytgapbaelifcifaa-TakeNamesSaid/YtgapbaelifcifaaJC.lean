/- Contract of Relieve. -/
import Derived.Test.YtgapbaelifcifaaJB
import Derived.Test.YtgapbaelifcifaaFI
import Derived.Sort.AtCall
namespace Go.Proofs.Ytgapbaelifcifaa
open Go.RowKit

/-- What Relieve says is wrong with its input. -/
def reliefErr (len long short due delay : Int) (L : List (Int × Int)) (C : List (Int × Int × Int)) (Z : List Int) (rel second : Int) : Int :=
  if serveErr len long short due delay L C ≠ 0 then serveErr len long short due delay L C else
  if staffsM C.length (takesOf len long short L).length Z = false then 2 else
  if rightM (howOf due delay C (takesOf len long short L)) (Z.map Int.toNat) 0 [0, 0, 0, 0, 0] = false then 9 else
  if inB rel 0 (C.length - 1) = false ∨ inB second 0 len = false then 2 else 0

/-- What Relieve returns. -/
def ReliefPost (len long short due delay : Int) (L : List (Int × Int)) (C : List (Int × Int × Int)) (Z : List Int) (rel second : Int) (w : World) (e : Ending) (w' : World) : Prop :=
  Below w.heap.size w w' ∧
  (reliefErr len long short due delay L C Z rel second ≠ 0 ∧ e = .returned (.tuple #[.slice none 0 0, .slice none 0 0, .int .i64 (reliefErr len long short due delay L C Z rel second)]) ∨
   reliefErr len long short due delay L C Z rel second = 0 ∧
    ((e = .returned (.tuple #[.slice none 0 0, .slice none 0 0, .int .i64 7]) ∧ ∃ rc, rc < (takesOf len long short L).length ∧ (howW rel.toNat second (Z.map Int.toNat) due delay C (takesOf len long short L)).dead rc 0 [0, 0, 0, 0, 0]) ∨
     ∃ (a b : Option Addr) (ac bn bc : Nat) (A : List Nat) (s : Sv), s.delay = delay ∧ e = .returned (.tuple #[.slice a A.length ac, .slice b bn bc, .int .i64 0]) ∧ Ints w' a (A.map fun r : Nat => (r : Int)) ∧ (howW rel.toNat second (Z.map Int.toNat) due delay C (takesOf len long short L)).best A 0 [0, 0, 0, 0, 0] ∧
       (openM s C (takesOf len long short L) (Z.map Int.toNat) rel.toNat second (takesOf len long short L).length).length = bn ∧ Ints w' b ((openM s C (takesOf len long short L) (Z.map Int.toNat) rel.toNat second (takesOf len long short L).length).map fun r : Nat => (r : Int))))

theorem lookW (len long short due delay second : Int) (pa ca ta a : Option Addr) (pn pc cn cc tn tc cap rel q1 q2 q3 q4 : Nat) (C : List (Int × Int × Int)) (T : List (Int × Int)) (R : List Nat) (w : World)
    (hs : SvOk ⟨len, long, short, due, delay, pa, ca, ta, pn, pc, cn, cc, tn, tc⟩ C T w) (hH : Held w q1 q2 q3 q4 len long short due delay pa ca ta a pn pc cn cc tn tc tn cap second rel) (hR : R.length = tn) (hI : Ints w a (R.map fun r : Nat => (r : Int))) :
    Calls Try.prog 59 #[.agg #[.int .i64 len, .slice pa pn pc, .int .i64 long, .int .i64 short, .slice ca cn cc, .int .i64 due, .int .i64 delay, .slice ta tn tc], .func (.func 83) #[] #[.pointer (some ⟨q1, 0, none⟩), .pointer (some ⟨q2, 0, none⟩), .pointer (some ⟨q3, 0, none⟩), .pointer (some ⟨q4, 0, none⟩)]] w (LookPost (howW rel second R due delay C T) w) := by
  have hcn : (howW rel second R due delay C T).cn = cn := hs.cn
  have htn : (howW rel second R due delay C T).tn = tn := hs.tn
  refine lookO_any ⟨len, long, short, due, delay, pa, ca, ta, pn, pc, cn, cc, tn, tc⟩ C T (howW rel second R due delay C T) q1 q2 q3 q4 w hs hcn htn ?_ ?_
  · intro k r hk hr
    refine ⟨rfl, ?_⟩
    have := nextFrom_le T (freeM ⟨len, long, short, due, delay, pa, ca, ta, pn, pc, cn, cc, tn, tc⟩ C T k r) (T.length - (k + 1)) (k + 1)
    have hl : (howW rel second R due delay C T).tn = T.length := rfl
    unfold againM
    omega
  · intro W k r h0 h1 h2 h3 h4 hB hk hr
    exact without_may q1 q2 q3 q4 len long short due delay pa ca ta a pn pc cn cc tn tc cap second rel C T R h0 h1 h2 h3 h4 k r W (hs.grown hB) (hH.grown hB) hR (hI.grown hB) (by rw [htn] at hk; exact hk) (by rw [hcn] at hr; exact hr)

theorem howW_ag (rel : Nat) (second : Int) (R : List Nat) (due delay : Int) (C : List (Int × Int × Int)) (T : List (Int × Int)) : (howW rel second R due delay C T).ag = (howOf due delay C T).ag := rfl

set_option maxRecDepth 100000 in
set_option maxHeartbeats 4000000 in
theorem relieve_any (L : List (Int × Int)) (len long short due delay : Int) (C : List (Int × Int × Int)) (Z : List Int) (rel second : Int) (pn pc cn cc zn zc : Nat) (pa ca za : Option Addr) (w : World)
    (hL : L.length = pn) (hm : pn ≤ maxLen) (hS : Spans w pa L) (hC : C.length = cn) (hcn : cn ≤ maxLen) (hCr : Crew w ca C) (hZ : Z.length = zn) (hzn : zn ≤ maxLen) (hI : Ints w za Z) :
    Calls Try.prog 43 #[.agg #[.int .i64 len, .slice pa pn pc, .int .i64 long, .int .i64 short], .agg #[.slice ca cn cc, .int .i64 due, .int .i64 delay], .slice za zn zc, .int .i64 rel, .int .i64 second] w (ReliefPost len long short due delay L C Z rel second w) := by
  obtain ⟨z, hz⟩ : ∃ z, reliefErr len long short due delay L C Z rel second = z := ⟨_, rfl⟩
  have HV := hid hz
  have HL := hid hL
  have HC := hid hC
  have HZ := hid hZ
  clear hL hC hZ hz
  go_enter Try.func43, Try.ntmps43
  go_wp2_with fail
  obtain ⟨W0, hW0⟩ : ∃ W0, W0 = (w.alloc (.cells #[.int .i64 len, .slice pa pn pc, .int .i64 long, .int .i64 short] 34)).alloc (.cells #[.slice ca cn cc, .int .i64 due, .int .i64 delay] 39) := ⟨_, rfl⟩
  have hB0 : Below w.heap.size w W0 := by rw [hW0]; exact ((Below.refl _ w).alloc (Nat.le_refl _) _).alloc (by simp) _
  rw [← hW0]
  have s3 : W0.heap.size = w.heap.size + 2 := by rw [hW0]; simp
  clear hW0
  refine (serve_any L len long short due delay C pn pc cn cc pa ca _ HL.out hm (hS.grown hB0) HC.out hcn (hCr.grown hB0)).mono ?_
  intro e w' h
  rcases servePost_cases h with ⟨x, hx, hb, rfl, hwhy⟩ | ⟨ta, tc, tn, htn, h1, h2, h3, hb, rfl, hST⟩
  · have HE : Hid (reliefErr len long short due delay L C Z rel second = x) := hid (by
      unfold reliefErr
      rw [if_pos (by rw [hwhy]; omega), hwhy])
    clear h hwhy
    have hB1 := hB0.trans (hb.mono (by omega))
    unfold svZero
    rcases hx with rfl | rfl
    all_goals
      go_wp2
      refine bodyPost_ret (v := .tuple #[.slice none 0 0, .slice none 0 0, .int .i64 (reliefErr len long short due delay L C Z rel second)]) (by rw [HE.out]; simp [results, Try.f43, go_sem]) rfl ⟨hB1.alloc hB1.size _, .inl ⟨by rw [HE.out]; omega, rfl⟩⟩
  · have hB1 := hB0.trans (hb.mono (by omega))
    have sOk := svOk_of (pa := pa) (pn := pn) (pc := pc) (cc := cc) (tc := tc) h1 htn h2 h3 HC.out (hCr.grown hB1) hST
    have hc5 := sOk.c5
    simp only at hc5
    have HF : Hid (reliefErr len long short due delay L C Z rel second = (if staffsM cn tn Z = false then 2 else
  if rightM (howOf due delay C (takesOf len long short L)) (Z.map Int.toNat) 0 [0, 0, 0, 0, 0] = false then 9 else
  if inB rel 0 (cn - 1) = false ∨ inB second 0 len = false then 2 else 0)) := hid (by
      unfold reliefErr
      rw [if_neg (by rw [serveErr, if_neg (by simp [h1]), if_neg (by omega), if_neg (by simp [h3])]; simp), HC.out, htn])
    have HG : Hid (∀ e w', ReliefPost len long short due delay L C Z rel second w e w' ↔ (Below w.heap.size w w' ∧ (z ≠ 0 ∧ e = .returned (.tuple #[.slice none 0 0, .slice none 0 0, .int .i64 z]) ∨ z = 0 ∧
      ((e = .returned (.tuple #[.slice none 0 0, .slice none 0 0, .int .i64 7]) ∧ ∃ rc, rc < tn ∧ (howW rel.toNat second (Z.map Int.toNat) due delay C (takesOf len long short L)).dead rc 0 [0, 0, 0, 0, 0]) ∨
       ∃ (a b : Option Addr) (ac bn bc : Nat) (A : List Nat) (s : Sv), s.delay = delay ∧ e = .returned (.tuple #[.slice a A.length ac, .slice b bn bc, .int .i64 0]) ∧ Ints w' a (A.map fun r : Nat => (r : Int)) ∧ (howW rel.toNat second (Z.map Int.toNat) due delay C (takesOf len long short L)).best A 0 [0, 0, 0, 0, 0] ∧
         (openM s C (takesOf len long short L) (Z.map Int.toNat) rel.toNat second tn).length = bn ∧ Ints w' b ((openM s C (takesOf len long short L) (Z.map Int.toNat) rel.toNat second tn).map fun r : Nat => (r : Int)))))) := hid (by
      intro e w'
      unfold ReliefPost
      rw [HV.out, htn])
    rw [HV.out] at HF
    obtain ⟨T, hTT⟩ : ∃ T, (takesOf len long short L) = T := ⟨_, rfl⟩
    rw [hTT] at sOk htn hST HF HG
    have HTN := hid htn
    have hI1 := hI.grown hB1
    have sz1 := hB1.size
    clear h h1 h3 htn hCr hS hb hB0 hST hTT hI HV
    go_wp2_with fail
    obtain ⟨W1, hW1⟩ : ∃ W1, W1 = w'.alloc (.cells #[.int .i64 len, .slice pa pn pc, .int .i64 long, .int .i64 short, .slice ca cn cc, .int .i64 due, .int .i64 delay, .slice ta tn tc] 106) := ⟨_, rfl⟩
    have hB2 : Below w'.heap.size w' W1 := by rw [hW1]; exact (Below.refl _ _).alloc (Nat.le_refl _) _
    have y0 : W1.cell? ⟨w'.heap.size, 0, none⟩ = some (.int .i64 len) := by rw [hW1]; simp [go_sem]
    have y1 : W1.cell? ⟨w'.heap.size, 1, none⟩ = some (.slice pa pn pc) := by rw [hW1]; simp [go_sem]
    have y2 : W1.cell? ⟨w'.heap.size, 2, none⟩ = some (.int .i64 long) := by rw [hW1]; simp [go_sem]
    have y3 : W1.cell? ⟨w'.heap.size, 3, none⟩ = some (.int .i64 short) := by rw [hW1]; simp [go_sem]
    have y4 : W1.cell? ⟨w'.heap.size, 4, none⟩ = some (.slice ca cn cc) := by rw [hW1]; simp [go_sem]
    have y5 : W1.cell? ⟨w'.heap.size, 5, none⟩ = some (.int .i64 due) := by rw [hW1]; simp [go_sem]
    have y6 : W1.cell? ⟨w'.heap.size, 6, none⟩ = some (.int .i64 delay) := by rw [hW1]; simp [go_sem]
    have y7 : W1.cell? ⟨w'.heap.size, 7, none⟩ = some (.slice ta tn tc) := by rw [hW1]; simp [go_sem]
    have zW : W1.heap.size = w'.heap.size + 1 := by rw [hW1]; simp
    rw [← hW1]
    clear hW1
    have hB3 := hB1.trans (hB2.mono sz1)
    refine (staffs_any Z len long short due delay pa ca ta za pn pc cn cc tn tc zn zc W1 HZ.out hzn (hI1.grown hB2) hc5 h2).mono ?_
    rintro e w2 ⟨rfl, hb2⟩
    have hB4 := hB3.trans (hb2.mono hB3.size)
    have hBt := hB2.trans (hb2.mono hB2.size)
    cases hst : staffsM cn tn Z
    · have HE : Hid (z = 2) := hid (by rw [HF.out, hst]; rfl)
      clear hst
      go_wp2
      exact bodyPost_ret (v := .tuple #[.slice none 0 0, .slice none 0 0, .int .i64 2]) (by simp [results, Try.f43, go_sem]) rfl ((HG.out _ _).2 ⟨hB4, .inl ⟨by rw [HE.out]; omega, by rw [HE.out]⟩⟩)
    · have HST := hid hst
      have hF2 := HF.out
      rw [hst] at hF2
      simp only [Bool.true_eq_false, if_false] at hF2
      have hzt : zn = tn := by rw [← HZ.out]; exact (staffs_at hst).1
      clear hst HF
      replace y0 := cell_grown hb2 y0; replace y1 := cell_grown hb2 y1; replace y2 := cell_grown hb2 y2; replace y3 := cell_grown hb2 y3; replace y4 := cell_grown hb2 y4; replace y5 := cell_grown hb2 y5; replace y6 := cell_grown hb2 y6; replace y7 := cell_grown hb2 y7
      subst hzt
      go_wp2_with fail
      have hIN := ints_nat (hI1.grown hBt) HST.out
      have hRL : (Z.map Int.toNat).length = zn := by rw [List.length_map]; exact HZ.out
      have sOk2 := sOk.grown hBt
      refine (right_any C T (Z.map Int.toNat) len long short due delay pa ca ta za pn pc cn cc zn tc zc w2 sOk2 hRL hIN (toNat_lt HST.out)).mono ?_
      rintro e w3 ⟨rfl, hb3⟩
      have hB5 := hB4.trans (hb3.mono hB4.size)
      have hIN3 := hIN.grown hb3
      have sOk3 := sOk2.grown hb3
      replace y0 := cell_grown hb3 y0; replace y1 := cell_grown hb3 y1; replace y2 := cell_grown hb3 y2; replace y3 := cell_grown hb3 y3; replace y4 := cell_grown hb3 y4; replace y5 := cell_grown hb3 y5; replace y6 := cell_grown hb3 y6; replace y7 := cell_grown hb3 y7
      obtain ⟨R, hRR⟩ : ∃ R, Z.map Int.toNat = R := ⟨_, rfl⟩
      rw [hRR] at hF2 hRL hIN3 HG ⊢
      clear hb3 hb2 hIN sOk2 sOk hI1 hB2 hB3 hB4 hBt hRR
      cases hri : rightM (howOf due delay C T) R 0 [0, 0, 0, 0, 0]
      · have HE : Hid (z = 9) := hid (by rw [hF2, hri]; rfl)
        clear hri hF2
        go_wp2
        exact bodyPost_ret (v := .tuple #[.slice none 0 0, .slice none 0 0, .int .i64 9]) (by simp [results, Try.f43, go_sem]) rfl ((HG.out _ _).2 ⟨hB5, .inl ⟨by rw [HE.out]; omega, by rw [HE.out]⟩⟩)
      · rw [hri] at hF2
        simp only [Bool.true_eq_false, if_false] at hF2
        have HF3 := hid hF2
        have HRL := hid hRL
        clear hri hF2 hRL
        have hcw : IntKind.i64.wrap ((cn : Int) - 1) = (cn : Int) - 1 := by rw [IntKind.wrap_i64]; omega
        go_wp2_with fail
        refine (within_any rel 0 ((cn : Int) - 1) w3).mono ?_
        rintro e w4 ⟨rfl, rfl⟩
        cases hw1 : inB rel 0 ((cn : Int) - 1)
        · have HE : Hid (z = 2) := hid (by rw [HF3.out, hw1]; simp)
          clear hw1 HF3
          go_wp2_with fail
          exact bodyPost_ret (v := .tuple #[.slice none 0 0, .slice none 0 0, .int .i64 2]) (by simp [results, Try.f43, go_sem]) rfl ((HG.out _ _).2 ⟨hB5, .inl ⟨by rw [HE.out]; omega, by rw [HE.out]⟩⟩)
        · have hF4 := HF3.out
          rw [hw1] at hF4
          simp only [Bool.true_eq_false, false_or] at hF4
          have hrb : 0 ≤ rel ∧ rel ≤ (cn : Int) - 1 := by simpa [inB] using hw1
          obtain ⟨rn, hrn⟩ : ∃ rn : Nat, rel = (rn : Int) := ⟨rel.toNat, by omega⟩
          subst hrn
          have hrc : rn < cn := by omega
          have HF5 := hid hF4
          clear hF4 HF3 hw1 hrb
          go_wp2_with fail
          refine (within_any second 0 len w3).mono ?_
          rintro e w4 ⟨rfl, rfl⟩
          cases hw1 : inB second 0 len
          · have HE : Hid (z = 2) := hid (by rw [HF5.out, hw1]; simp)
            clear hw1 HF5
            go_wp2_with fail
            exact bodyPost_ret (v := .tuple #[.slice none 0 0, .slice none 0 0, .int .i64 2]) (by simp [results, Try.f43, go_sem]) rfl ((HG.out _ _).2 ⟨hB5, .inl ⟨by rw [HE.out]; omega, by rw [HE.out]⟩⟩)
          · have HE : Hid (z = 0) := hid (by rw [HF5.out, hw1]; simp)
            clear hw1 HF5
            have hBd : Below w3.heap.size w3 w3.drew := (Below.refl _ _).drew
            have HB5 := hid hB5
            have HI3 := hid hIN3
            have HS3 := hid sOk3
            have hcnC : (howW rn second R due delay C T).cn = cn := HC.out
            have htnT : (howW rn second R due delay C T).tn = zn := HTN.out
            have HCN := hid hcnC
            have HTNT := hid htnT
            clear hcnC htnT hB5 hIN3 sOk3
            go_wp2_with fail
            go_region_held3 (fun w4 : World => w4.cell? ⟨w'.heap.size, 0, none⟩ = some (.int .i64 len) ∧ w4.cell? ⟨w'.heap.size, 1, none⟩ = some (.slice pa pn pc) ∧ w4.cell? ⟨w'.heap.size, 2, none⟩ = some (.int .i64 long) ∧ w4.cell? ⟨w'.heap.size, 3, none⟩ = some (.int .i64 short) ∧ w4.cell? ⟨w'.heap.size, 4, none⟩ = some (.slice ca cn cc) ∧ w4.cell? ⟨w'.heap.size, 5, none⟩ = some (.int .i64 due) ∧ w4.cell? ⟨w'.heap.size, 6, none⟩ = some (.int .i64 delay) ∧ w4.cell? ⟨w'.heap.size, 7, none⟩ = some (.slice ta zn tc)) (exact ⟨y0, y1, y2, y3, y4, y5, y6, y7⟩) (first | (go_at_call 67; replace y0 := cell_grown hBd y0; replace y1 := cell_grown hBd y1; replace y2 := cell_grown hBd y2; replace y3 := cell_grown hBd y3; replace y4 := cell_grown hBd y4; replace y5 := cell_grown hBd y5; replace y6 := cell_grown hBd y6; replace y7 := cell_grown hBd y7; refine (without_any len long short due delay second pa ca ta za pn pc cn cc zn tc zn zc rn _).mono ?_; rintro e w5 ⟨rfl, hH, hb5⟩; replace y0 := cell_grown hb5 y0; replace y1 := cell_grown hb5 y1; replace y2 := cell_grown hb5 y2; replace y3 := cell_grown hb5 y3; replace y4 := cell_grown hb5 y4; replace y5 := cell_grown hb5 y5; replace y6 := cell_grown hb5 y6; replace y7 := cell_grown hb5 y7; have hb35 := hBd.trans (hb5.mono hBd.size)) | (go_at_call 59; refine (lookW len long short due delay second pa ca ta za pn pc cn cc zn tc zc rn _ _ _ _ C T R _ (HS3.out.grown hb35) hH HRL.out (HI3.out.grown hb35)).mono ?_; rintro e w6 ⟨ra, rcap, A, rc, rfl, hb6, hIA, hrc6, hpath, hres⟩; replace y0 := cell_grown hb6 y0; replace y1 := cell_grown hb6 y1; replace y2 := cell_grown hb6 y2; replace y3 := cell_grown hb6 y3; replace y4 := cell_grown hb6 y4; replace y5 := cell_grown hb6 y5; replace y6 := cell_grown hb6 y6; replace y7 := cell_grown hb6 y7; have hb36 := hb35.trans (hb6.mono hb35.size)))
            clear hBd hb5 hb6 hH hpath
            have hg := HG.out
            simp only [Int.toNat_natCast] at hg
            replace HG := hid hg
            clear hg
            have HRES := hid hres
            have hrz : rc ≤ zn := by rw [HTNT.out] at hrc6; exact hrc6
            clear hres hrc6
            by_cases hlt : rc < zn
            · go_wp2_with fail
              exact bodyPost_ret (v := .tuple #[.slice none 0 0, .slice none 0 0, .int .i64 7]) (by simp [results, Try.f43, go_sem]) rfl ((HG.out _ _).2 ⟨HB5.out.trans (hb36.mono HB5.out.size), .inr ⟨HE.out, .inl ⟨rfl, rc, hlt, by
                rcases HRES.out with ⟨_, h⟩ | ⟨_, h⟩
                · rw [HTNT.out] at h; omega
                · exact h⟩⟩⟩)
            · go_wp2_with fail
              refine (open_any len long short due delay second pa ca ta za pn pc cn cc zn tc zc rn C T R _ (HS3.out.grown hb36) HRL.out (HI3.out.grown hb36) hrc).mono ?_
              rintro e w7 ⟨va, vn, vc, rfl, hvl, hvI, hb7⟩
              have hIA7 := hIA.grown hb7
              have HVI := hid hvI
              have HVL := hid hvl
              clear hvI hvl hIA
              go_wp2_with fail
              exact bodyPost_ret (v := .tuple #[.slice ra A.length rcap, .slice va vn vc, .int .i64 0]) (by simp [results, Try.f43, go_sem]) rfl ((HG.out _ _).2 ⟨HB5.out.trans ((hb36.trans (hb7.mono hb36.size)).mono HB5.out.size), .inr ⟨HE.out, .inr ⟨ra, va, rcap, vn, vc, A, ⟨len, long, short, due, delay, pa, ca, ta, pn, pc, cn, cc, zn, tc⟩, rfl, rfl, hIA7, by
                rcases HRES.out with ⟨h, _⟩ | ⟨h, _⟩
                · exact h
                · rw [HTNT.out] at h; omega, HVL.out, HVI.out⟩⟩⟩)

end Go.Proofs.Ytgapbaelifcifaa
