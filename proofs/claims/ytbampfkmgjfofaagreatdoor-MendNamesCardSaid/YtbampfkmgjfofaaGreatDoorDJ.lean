/- Mend, the laws: the sense of any number of texts, by the program. -/
import Derived.Test.YtbampfkmgjfofaaGreatDoorDI
import Derived.Test.YtbampfkmgjfofaaGreatDoorBP
import Derived.Deep.RegionHeld3
import Derived.IntWalk
namespace Go.Proofs.YtbampfkmgjfofaaGreatDoor
open Go.RowKit

/-- A part of texts that lie somewhere. -/
theorem strs_part {w : World} {b off : Nat} {X : List Tx} (h : Strs w (some ⟨b, off, none⟩) X) (k : Nat) : Strs w (some ⟨b, off + k, none⟩) (X.drop k) := by
  intro i hi
  rw [List.length_drop] at hi
  obtain ⟨b', off', e, hc⟩ := h (k + i) (by omega)
  cases e
  refine ⟨b, off + k, rfl, ?_⟩
  have e2 : (X.drop k).getD i .empty = X.getD (k + i) .empty := by rw [List.getD_eq_getElem?_getD, List.getD_eq_getElem?_getD, List.getElem?_drop]
  rw [e2, Nat.add_assoc]
  exact hc

theorem strs_head {w : World} {a : Option Addr} {X : List Tx} (h : Strs w a X) (k : Nat) : Strs w a (X.take k) := by
  intro i hi
  rw [List.length_take] at hi
  obtain ⟨b', off', e, hc⟩ := h i (by omega)
  refine ⟨b', off', e, ?_⟩
  have e2 : (X.take k).getD i .empty = X.getD i .empty := by rw [List.getD_eq_getElem?_getD, List.getD_eq_getElem?_getD, List.getElem?_take_of_lt (by omega)]
  rw [e2]
  exact hc

def RowPost (l : Lex) (X : List Tx) (w : World) (e : Ending) (w' : World) : Prop :=
  ∃ ra rc, e = .returned (.tuple #[.slice ra (senseM (entries l) X).length rc, .bool true]) ∧ Marks w' ra (senseM (entries l) X) ∧ Below w.heap.size w w'

set_option maxRecDepth 100000 in
set_option maxHeartbeats 4000000 in
theorem row_any (l : Lex) (a1 a2 a3 : Option Addr) (n1 n2 n3 c1 c2 c3 : Nat) (X : List Tx) (n nc : Nat) (xa : Option Addr) (w : World)
    (h1 : l.nums.length = n1) (h2 : l.names.length = n2) (h3 : l.nots.length = n3) (hLx : LexAt w a1 a2 a3 l) (q1 : n1 ≤ 1000) (q2 : n2 ≤ 1000) (q3 : n3 ≤ 1000) (hNm : ∀ N ∈ l.names, N.length ≤ 1000) (hle : lexErr l = 0)
    (hX : X.length = n) (hn : n ≤ 4000) (hnc : n ≤ nc) (hXS : Strs w xa X) (hok : X.all textOk = true) (hstd : Std w) :
    Calls Tryz.prog 45 #[.agg #[.slice a1 n1 c1, .slice a2 n2 c2, .slice a3 n3 c3], .slice xa n nc] w (RowPost l X w) := by
  have H1 := hid h1; have H2 := hid h2; have H3 := hid h3; have HX := hid hX; have HLE := hid hle; have HOK := hid hok; have HNM := hid hNm
  clear h1 h2 h3 hX hle hok hNm
  obtain ⟨i5, hj5, hy0, hy1, hy2⟩ := info_parts Tryz.info95
  obtain ⟨W0, hW0⟩ : ∃ W0, W0 = w.alloc (.cells #[.slice a1 n1 c1, .slice a2 n2 c2, .slice a3 n3 c3] 26) := ⟨_, rfl⟩
  have hB0 : Below w.heap.size w W0 := by rw [hW0]; exact below_alloc w _
  have x0 : W0.cell? ⟨w.heap.size, 0, none⟩ = some (.slice a1 n1 c1) := by rw [hW0]; simp [go_sem]
  have x1 : W0.cell? ⟨w.heap.size, 1, none⟩ = some (.slice a2 n2 c2) := by rw [hW0]; simp [go_sem]
  have x2 : W0.cell? ⟨w.heap.size, 2, none⟩ = some (.slice a3 n3 c3) := by rw [hW0]; simp [go_sem]
  replace hLx := hLx.grown hB0
  replace hXS := hXS.grown hB0
  replace hstd := hstd.grown hB0
  have HB := hid hB0
  clear hB0
  go_enter Tryz.func45, Tryz.ntmps45
  go_wp2_with fail
  rw [← hW0]
  clear hW0
  go_loopw [1, 6] (fun s o wr => ∃ (k : Nat) (v : Value) (ya : Option Addr) (yc : Nat), k ≤ n ∧ n - k ≤ yc ∧ s = .slice ya (n - k : Nat) yc ∧ o = v ∧ Strs wr ya (X.drop k) ∧ Hid (∀ b o x, 0 < n - k → ya = some ⟨b, o, x⟩ → b < W0.heap.size) ∧ wr.ownsRow W0.heap.size 95 2 v (senseM (entries l) (X.take k)).length (flatV markC (senseM (entries l) (X.take k))) ∧ Below W0.heap.size W0 wr) (fun s _ _ => match s with | .slice _ m _ => m | _ => 0)
  case atStart => exact ⟨0, _, xa, nc, Nat.zero_le _, hnc, rfl, rfl, hXS, hid (fun b o x h e => by
    obtain ⟨b', o', e', hc⟩ := hXS 0 (by rw [HX.out]; omega)
    rw [e] at e'
    cases e'
    exact lt_of_cell hc), World.ownsRow_nil _ _ _ _, Below.refl _ _⟩
  case round =>
    obtain ⟨k, v, ya, yc, hk, hyc, rfl, rfl, hY, HYB, hown, hBr⟩ := hrel
    replace x0 := cell_grown hBr x0
    replace x1 := cell_grown hBr x1
    replace x2 := cell_grown hBr x2
    by_cases hlt : k < n
    · obtain ⟨b, off, hya, -⟩ := hY 0 (by rw [List.length_drop, HX.out]; omega)
      subst hya
      obtain ⟨m, hm⟩ : ∃ m, n - k = m := ⟨_, rfl⟩
      rw [hm] at hyc ⊢
      have hm0 : (0 : Int) < (m : Int) := by omega
      obtain ⟨p, hmin, hp1, hp2, hp3⟩ : ∃ p : Nat, min (80 : Int) (m : Int) = (p : Int) ∧ p ≤ m ∧ p ≤ 80 ∧ 0 < p := ⟨min 80 m, by omega, by omega, by omega, by omega⟩
      have hp4 : (0 : Int) ≤ (p : Int) := by omega
      have hp5 : (p : Int) ≤ (yc : Int) := by omega
      have hp6 : p ≤ yc := by omega
      obtain ⟨Y, hYe⟩ : ∃ Y, (X.drop k).take p = Y := ⟨_, rfl⟩
      have hYl : Y.length = p := by rw [← hYe, List.length_take, List.length_drop, HX.out]; omega
      have hYS := strs_head hY p
      rw [hYe] at hYS
      have hYok : Y.all textOk = true := by
        rw [List.all_eq_true]
        intro t ht
        rw [← hYe] at ht
        exact (List.all_eq_true.1 HOK.out) t (List.mem_of_mem_drop (List.mem_of_mem_take ht))
      have HE1 : Hid (senseErr l Y = 0) := hid (sense_fine HLE.out (by rw [hYl]; omega) hYok)
      have hnext : X.take (k + p) = X.take k ++ Y := by rw [List.take_add, hYe]
      have hsn : senseM (entries l) (X.take (k + p)) = senseM (entries l) (X.take k) ++ senseM (entries l) Y := by rw [hnext, senseM_append]
      have hbW : b < W0.heap.size := HYB.out b off none (by omega) rfl
      have hY2 : Strs wr (some ⟨b, off + p, none⟩) (X.drop (k + p)) := by
        have h := strs_part hY p
        rwa [List.drop_drop] at h
      have hml : (senseM (entries l) Y).length ≤ 80 := Nat.le_trans (senseM_length _ _) (by omega)
      have hml2 : (senseM (entries l) (X.take k)).length ≤ 4000 := Nat.le_trans (senseM_length _ _) (Nat.le_trans (List.length_take_le _ _) (by omega))
      have HYL := hid hYl
      have HSN := hid hsn
      have HY2 := hid hY2
      have HYS := hid hYS
      generalize senseM (entries l) (X.take k) = MX at hown hml2 HSN
      obtain ⟨mx, hmx⟩ : ∃ n, MX.length = n := ⟨_, rfl⟩
      rw [hmx] at hown hml2
      have HMX := hid hmx
      have HOWN := hid hown
      have HBR := hid hBr
      have hz := hBr.size
      have hLr := hLx.grown hBr
      have hSr := hstd.grown hBr
      clear hYe hYl hYS hYok hnext hsn hY2 hmx hown hY hBr
      have hbl : off + 0 = off := rfl
      clear hbl
      go_wp2_with fail
      clear hmin
      have hBd : Below wr.heap.size wr wr.drew := (Below.refl _ _).drew
      have hBq : Below wr.heap.size wr wr.drew := hBd
      have ZO := hid (And.intro x0 (And.intro x1 x2))
      go_region_held3 (fun w' : World => w'.cell? ⟨w.heap.size, 0, none⟩ = some (.slice a1 n1 c1) ∧ w'.cell? ⟨w.heap.size, 1, none⟩ = some (.slice a2 n2 c2) ∧ w'.cell? ⟨w.heap.size, 2, none⟩ = some (.slice a3 n3 c3)) (first | with_reducible exact ⟨x0, x1, x2⟩ | with_reducible exact ⟨cell_grown hBq x0, cell_grown hBq x1, cell_grown hBq x2⟩)
        (first
          | (go_at_call 19
             refine (lexicon_any l a1 a2 a3 n1 n2 n3 c1 c2 c3 _ H1.out H2.out H3.out q1 q2 q3 HNM.out (hLr.grown hBq)).mono ?_
             rintro e w4 ⟨b1, b2, b3, d1, d2, d3, rfl, hl3, hb4⟩
             try replace hT := hT.grown hb4
             have hBn := hBq.trans (hb4.mono hBq.size)
             replace x0 := cell_grown hBn ZO.out.1
             replace x1 := cell_grown hBn ZO.out.2.1
             replace x2 := cell_grown hBn ZO.out.2.2
             clear hBq
             have hBq := hBn
             clear hBn)
          | (go_at_call 21
             refine (copy_any Y p yc (some ⟨b, off, none⟩) _ HYL.out (by omega) (HYS.out.grown hBq)).mono ?_
             rintro e w4 ⟨ta, tc, rfl, -, hT, hb4⟩
             try replace hl3 := hl3.grown hb4
             have hBn := hBq.trans (hb4.mono hBq.size)
             replace x0 := cell_grown hBn ZO.out.1
             replace x1 := cell_grown hBn ZO.out.2.1
             replace x2 := cell_grown hBn ZO.out.2.2
             clear hBq
             have hBq := hBn
             clear hBn)
          | (go_at_call 20
             refine (senseF_any l b1 b2 b3 n1 n2 n3 d1 d2 d3 Y p tc ta _ H1.out H2.out H3.out hl3 HYL.out (by unfold maxLen; omega) hT (hSr.grown hBq)).mono ?_
             rintro e w4 ⟨hb4, he⟩
             rw [if_pos HE1.out] at he
             obtain ⟨va, vc, rfl, hmk⟩ := he
             have hMY := marks_of_owns hmk
             clear hmk
             have hBn := hBq.trans (hb4.mono hBq.size)
             replace x0 := cell_grown hBn ZO.out.1
             replace x1 := cell_grown hBn ZO.out.2.1
             replace x2 := cell_grown hBn ZO.out.2.2
             clear hBq
             have hBq := hBn
             clear hBn))
      all_goals
        clear hl3 hT hb4
        obtain ⟨my, hmy⟩ : ∃ n, (senseM (entries l) Y).length = n := ⟨_, rfl⟩
        rw [hmy] at hml ⊢
        have HMY := hid hmy
        clear hmy
        have hownq := owns_below hBq HOWN.out
        have hzq := hBq.size
        obtain ⟨Wq, hWq⟩ : ∃ W, W = w4 := ⟨_, rfl⟩
        have hBQ : Below wr.heap.size wr Wq := by rw [hWq]; exact hBq
        rw [← hWq] at hMY hownq hzq x0 x1 x2 ⊢
        clear hWq hBq ZO hLr hSr
        have HYW : Hid (∀ w5 : World, Below W0.heap.size Wq.drew w5 → Strs w5 (some ⟨b, off + p, none⟩) (X.drop (k + p))) := hid (fun w5 hb5 i hi => by
          obtain ⟨b', o', e', hc⟩ := (HY2.out.grown hBQ) i hi
          cases e'
          exact ⟨b, off + p, rfl, cell_below hb5 hbW hc⟩)
        have HBQ := hid hBQ
        clear hBQ
        by_cases hpy : yc = p
        · have hpy' : (yc : Int) = (p : Int) := by omega
          go_wp2_with fail
          go_region_law (refine step_append_marks rfl _ _ 36 rfl W0.heap.size i5 Tryz.underlying36 hj5 hy0 hy1 hy2 _ mx _ rfl hownq va my vc _ rfl HMY.out hMY (by omega) (by exact Nat.le_trans hz hzq) ?_; intro v' w5 hown' hgrow hat; have hb5 : Below W0.heap.size Wq.drew w5 := Below.grown (Below.refl _ _) hgrow (by exact Nat.le_trans hz hzq) (fun j hj => (hownq.lt j hj).1); clear hgrow hat)
          all_goals
            have hBW : Below W0.heap.size W0 w5 := (HBR.out.trans (HBQ.out.mono hz)).drew.trans hb5
            simp only [Act.put, List.getElem_toArray, List.getElem_cons_succ, List.getElem_cons_zero, List.setIfInBounds_toArray, List.set_cons_succ, List.set_cons_zero]
            refine ⟨?_, ?measure⟩
            (repeat apply Exists.intro)
            refine ⟨?rel, rfl⟩
            case rel => exact ⟨k + p, v', some ⟨b, off, none⟩, 0, by omega, by omega, by rw [show n - (k + p) = m - p by omega], rfl, by rw [List.drop_eq_nil_of_le (by rw [HX.out]; omega)]; exact fun i hi => by simp at hi, hid (fun b o x h => absurd h (by omega)), by rw [HSN.out, List.length_append, HMX.out, HMY.out, flatV_append]; exact hown', hBW⟩
            case measure => simp; omega
        · have hpy' : ¬ (yc : Int) = (p : Int) := by omega
          go_wp2_with fail
          go_region_law (refine step_append_marks rfl _ _ 36 rfl W0.heap.size i5 Tryz.underlying36 hj5 hy0 hy1 hy2 _ mx _ rfl hownq va my vc _ rfl HMY.out hMY (by omega) (by exact Nat.le_trans hz hzq) ?_; intro v' w5 hown' hgrow hat; have hb5 : Below W0.heap.size Wq.drew w5 := Below.grown (Below.refl _ _) hgrow (by exact Nat.le_trans hz hzq) (fun j hj => (hownq.lt j hj).1); clear hgrow hat)
          all_goals
            have hBW : Below W0.heap.size W0 w5 := (HBR.out.trans (HBQ.out.mono hz)).drew.trans hb5
            simp only [Act.put, List.getElem_toArray, List.getElem_cons_succ, List.getElem_cons_zero, List.setIfInBounds_toArray, List.set_cons_succ, List.set_cons_zero]
            refine ⟨?_, ?measure⟩
            (repeat apply Exists.intro)
            refine ⟨?rel, rfl⟩
            case rel => exact ⟨k + p, v', some ⟨b, off + p, none⟩, yc - p, by omega, by omega, by rw [show n - (k + p) = m - p by omega], rfl, HYW.out w5 hb5, hid (fun b' o x h e => by cases e; exact hbW), by rw [HSN.out, List.length_append, HMX.out, HMY.out, flatV_append]; exact hown', hBW⟩
            case measure => simp; omega
    · have hkn : k = n := by omega
      subst hkn
      have hfull : X.take k = X := List.take_of_length_le (by rw [HX.out]; exact Nat.le_refl _)
      rw [hfull] at hown
      obtain ⟨ra, rc, rfl⟩ := owns_shape hown
      have hM := hid (marks_of_owns hown)
      have HBR := hid (below_then HB.out hBr)
      rw [Nat.sub_self]
      clear hown hBr hY
      go_wp2
      go_ret2
      exact ⟨ra, rc, rfl, hM.out, HBR.out⟩

end Go.Proofs.YtbampfkmgjfofaaGreatDoor
