/- Contracts of the reference's Before and Open. -/
import Derived.Test.YtgapbaelifcifaaJD
import Derived.Test.YtgapbaelifcifaaKC
namespace Go.Proofs.Ytgapbaelifcifaa
open Go.RowKit

/-- So many takes begin before the second. -/
def IsBefore (T : List (Int × Int)) (second : Int) (nb : Nat) : Prop := nb ≤ T.length ∧ (∀ k, k < nb → (T.getD k (0, 0)).1 < second) ∧ (nb < T.length → ¬ (T.getD nb (0, 0)).1 < second)

theorem before_ex (T : List (Int × Int)) (second : Int) : ∃ nb, IsBefore T second nb := by
  have h : ∀ m, m ≤ T.length → (∃ nb, nb < m ∧ IsBefore T second nb) ∨ ∀ k, k < m → (T.getD k (0, 0)).1 < second := by
    intro m
    induction m with
    | zero => intro _; exact .inr fun k hk => by omega
    | succ m ih =>
      intro hm
      rcases ih (by omega) with ⟨nb, h1, h2⟩ | h1
      · exact .inl ⟨nb, by omega, h2⟩
      · by_cases hlt : (T.getD m (0, 0)).1 < second
        · exact .inr fun k hk => by
            by_cases e : k = m
            · subst e; exact hlt
            · exact h1 k (by omega)
        · exact .inl ⟨m, by omega, by omega, h1, fun _ => hlt⟩
  rcases h T.length (Nat.le_refl _) with ⟨nb, _, h2⟩ | h1
  · exact ⟨nb, h2⟩
  · exact ⟨T.length, Nat.le_refl _, h1, fun h => by omega⟩

set_option maxRecDepth 100000 in
set_option maxHeartbeats 2000000 in
theorem before_any (T : List (Int × Int)) (second : Int) (n tc nb : Nat) (ta : Option Addr) (w : World) (hT : T.length = n) (hn : n ≤ 40) (hST : Spans w ta T) (hb : IsBefore T second nb) :
    Calls Try.prog 44 #[.slice ta n tc, .int .i64 second] w fun e w' => e = .returned (.int .i64 (nb : Int)) ∧ Below w.heap.size w w' := by
  obtain ⟨b1, b2, b3⟩ := hb
  rw [hT] at b1 b3
  have HT := hid hT
  have HB2 := hid b2
  have HB3 := hid b3
  clear hT b2 b3
  go_enter Try.func44, Try.ntmps44
  go_wp2_with fail
  go_loopw [5] (fun i wr => ∃ k : Nat, k ≤ nb ∧ i = .int .i64 k ∧ Below w.heap.size w wr) (fun i _ => nb - (intOf i).toNat)
  case atStart => exact ⟨0, Nat.zero_le _, rfl, Below.refl _ _⟩
  case round =>
    obtain ⟨k, hk, rfl, hB⟩ := hrel
    have hwk : IntKind.i64.wrap ((k : Int) + 1) = (k : Int) + 1 := by rw [IntKind.wrap_i64]; omega
    by_cases hlt : k < nb
    · have hkn : (k : Int) < n := by omega
      obtain ⟨bt, ot, eta, e1, -⟩ := hST k (by rw [HT.out]; omega)
      have hc := HB2.out k hlt
      obtain ⟨x, hx⟩ : ∃ x, (T.getD k (0, 0)).1 = x := ⟨_, rfl⟩
      rw [hx] at e1 hc
      subst eta
      replace e1 := cell_grown hB e1
      have g1 := lt_of_cell e1
      clear hx
      go_wp2_with fail
      go_roundw
      case rel => exact ⟨k + 1, by omega, by go_num, hB⟩
      case measure => simp [intOf]; omega
    · have hkb : k = nb := by omega
      subst hkb
      by_cases hkn : k < n
      · have hkn' : (k : Int) < n := by omega
        obtain ⟨bt, ot, eta, e1, -⟩ := hST k (by rw [HT.out]; omega)
        have hc := HB3.out hkn
        obtain ⟨x, hx⟩ : ∃ x, (T.getD k (0, 0)).1 = x := ⟨_, rfl⟩
        rw [hx] at e1 hc
        subst eta
        replace e1 := cell_grown hB e1
        have g1 := lt_of_cell e1
        clear hx
        go_wp2_with fail
        go_ret
        exact ⟨rfl, hB⟩
      · have hkn' : ¬ (k : Int) < n := by omega
        go_wp2_with fail
        go_ret
        exact ⟨rfl, hB⟩

set_option maxRecDepth 100000 in
set_option maxHeartbeats 4000000 in
theorem openR_any (C : List (Int × Int × Int)) (T : List (Int × Int)) (R : List Nat) (s : Sv) (due delay second : Int) (rel nb cn cc n tc zc : Nat) (ca ta za : Option Addr) (w : World) (hsd : s.delay = delay) (hC : C.length = cn) (hcn : cn ≤ 5) (hbC : ∀ i, i < cn → 0 ≤ (C.getD i (0, 0, 0)).1 ∧ (C.getD i (0, 0, 0)).1 ≤ (C.getD i (0, 0, 0)).2.1 ∧ (C.getD i (0, 0, 0)).2.1 ≤ 20 ∧ 0 ≤ (C.getD i (0, 0, 0)).2.2 ∧ (C.getD i (0, 0, 0)).2.2 ≤ 36000) (hT : T.length = n) (hn : n ≤ 40) (hbT : ∀ k, k < n → 0 ≤ (T.getD k (0, 0)).1 ∧ (T.getD k (0, 0)).1 < (T.getD k (0, 0)).2 ∧ (T.getD k (0, 0)).2 ≤ 36000) (hdl : 0 ≤ delay ∧ delay ≤ 36000)
    (hCr : Crew w ca C) (hST : Spans w ta T) (hR : R.length = n) (hI : Ints w za (R.map fun r : Nat => (r : Int))) (hrel : rel < cn) (hb : IsBefore T second nb) :
    Calls Try.prog 45 #[.agg #[.slice ca cn cc, .int .i64 due, .int .i64 delay], .slice ta n tc, .slice za n zc, .int .i64 (rel : Int), .int .i64 second] w fun e w' => ∃ (va : Option Addr) (vn vc : Nat), e = .returned (.slice va vn vc) ∧ (openM s C T R rel second nb).length = vn ∧ Ints w' va ((openM s C T R rel second nb).map fun r : Nat => (r : Int)) ∧ Below w.heap.size w w' := by
  have hbn : nb ≤ n := by rw [← hT]; exact hb.1
  have HIB := hid hb
  have HC := hid hC
  have HT := hid hT
  have HR := hid hR
  have HBC := hid hbC
  have HBT := hid hbT
  have HSD := hid hsd
  obtain ⟨i3, hi3, hi3a, hi3b, hi3c⟩ := info_parts Try.info3
  obtain ⟨O, hO⟩ : ∃ O, openM s C T R rel second = O := ⟨_, rfl⟩
  rw [hO]
  have HO0 : Hid (O 0 = []) := hid (by rw [← hO]; rfl)
  have HON : Hid (∀ k, O (k + 1) = O k ++ if isOpen s C T R rel second k then [k] else []) := hid (fun k => by rw [← hO]; exact openM_next ..)
  have HOL : Hid (∀ k, (O k).length ≤ k) := hid (fun k => by rw [← hO]; exact openM_le ..)
  clear hC hT hR hbC hbT hsd hO hb
  go_enter Try.func45, Try.ntmps45
  go_wp2_with fail
  obtain ⟨W0, hW0⟩ : ∃ W, W = w.alloc (.cells #[.slice ca cn cc, .int .i64 due, .int .i64 delay] 27) := ⟨_, rfl⟩
  have hB0 : Below w.heap.size w W0 := by rw [hW0]; exact (Below.refl _ w).alloc (Nat.le_refl _) _
  have zW : W0.heap.size = w.heap.size + 1 := by rw [hW0]; simp
  have x0 : W0.cell? ⟨w.heap.size, 0, none⟩ = some (.slice ca cn cc) := by rw [hW0]; simp [go_sem]
  have x1 : W0.cell? ⟨w.heap.size, 1, none⟩ = some (.int .i64 due) := by rw [hW0]; simp [go_sem]
  have x2 : W0.cell? ⟨w.heap.size, 2, none⟩ = some (.int .i64 delay) := by rw [hW0]; simp [go_sem]
  rw [← hW0]
  clear hW0
  go_loopw [11, 12] (fun v i wr => ∃ k : Nat, k ≤ nb ∧ i = .int .i64 k ∧ wr.ownsRow (w.heap.size + 1) 3 1 v (O k).length (natVs (O k)) ∧ Below (w.heap.size + 1) W0 wr) (fun _ i _ => nb - (intOf i).toNat)
  case atStart => exact ⟨0, Nat.zero_le _, rfl, by rw [HO0.out]; exact World.ownsRow_nil _ _ _ _, Below.refl _ _⟩
  case round =>
    obtain ⟨k, hk, rfl, hown, hB⟩ := hrel
    have hzr := hB.size
    have hBw := hB0.trans (hB.mono (by omega))
    have hwk : IntKind.i64.wrap ((k : Int) + 1) = (k : Int) + 1 := by rw [IntKind.wrap_i64]; omega
    have hol := HOL.out k
    have y0 := (hB.cell (p := ⟨w.heap.size, 0, none⟩) (by simp)).trans x0
    have y1 := (hB.cell (p := ⟨w.heap.size, 1, none⟩) (by simp)).trans x1
    have y2 := (hB.cell (p := ⟨w.heap.size, 2, none⟩) (by simp)).trans x2
    go_wp2_with fail
    refine (before_any T second n tc nb ta wr HT.out hn (hST.grown hBw) HIB.out).mono ?_
    rintro e w2 ⟨rfl, hb2⟩
    have hB2 : Below (w.heap.size + 1) W0 w2 := hB.trans (hb2.mono (by omega))
    have hBw2 := hBw.trans (hb2.mono hBw.size)
    have own2 := ownsRow_below hown hb2
    have hz2 := hB2.size
    replace y0 := cell_grown hb2 y0
    replace y1 := cell_grown hb2 y1
    replace y2 := cell_grown hb2 y2
    have gw := lt_of_cell y0
    clear hown
    by_cases hlt : k < nb
    · have hkk : (k : Int) < nb := by omega
      have hkn : (k : Int) < n := by omega
      obtain ⟨bt, ot, era, e1, e2⟩ := hST k (by rw [HT.out]; omega)
      obtain ⟨ba, off, eaa, e3⟩ := hI k (by rw [List.length_map, HR.out]; omega)
      rw [map_nat_get (by rw [HR.out]; omega)] at e3
      have hbT := HBT.out k (by omega)
      have hbR := HBC.out rel (by omega)
      have hcb := HIB.out.2.1 k hlt
      have HN : Hid (O (k + 1) = O k ++ if (decide (R.getD k 0 = rel) && (decide ((T.getD k (0, 0)).1 < second) && decide (second < doneM T k (C.getD rel (0, 0, 0)).2.1 delay))) then [k] else []) := hid (by rw [HON.out k, ← HSD.out]; rfl)
      have hdm := (end_done T k (C.getD rel (0, 0, 0)).2.1 delay).symm
      have hwst := fun W (h : Crew W ca C) => worst_any C due delay (T.getD k (0, 0)).1 (T.getD k (0, 0)).2 rel cn cc ca W HC.out (by omega) h (by omega) hbT ⟨by omega, hbR.2.2.1⟩ hdl
      rw [hdm] at HN
      obtain ⟨l, hl⟩ : ∃ l, endM (T.getD k (0, 0)) (C.getD rel (0, 0, 0)).2.1 delay = l := ⟨_, rfl⟩
      have hl2 : endM ((T.getD k (0, 0)).1, (T.getD k (0, 0)).2) (C.getD rel (0, 0, 0)).2.1 delay = l := hl
      rw [hl2] at hwst
      rw [hl] at HN
      clear hl hl2 hdm
      obtain ⟨x, hx⟩ : ∃ x, R.getD k 0 = x := ⟨_, rfl⟩
      obtain ⟨y, hy⟩ : ∃ y, T.getD k (0, 0) = y := ⟨_, rfl⟩
      rw [hx] at e3 HN
      rw [hy] at e1 e2 HN hcb hwst hbT
      obtain ⟨f, to⟩ := y
      simp only at e1 e2 HN hcb hwst hbT
      clear hx hy
      have hCw := hCr.grown hBw2
      subst era
      subst eaa
      replace e1 := cell_grown hBw2 e1
      replace e2 := cell_grown hBw2 e2
      replace e3 := cell_grown hBw2 e3
      have gb := lt_of_cell e1
      have gb2 := lt_of_cell e3
      by_cases h1 : x = rel
      · by_cases h3 : second < l
        · have HNX : Hid (O (k + 1) = O k ++ [k]) := hid (by rw [HN.out]; simp [h1, hcb, h3])
          subst h1
          clear HN
          have hBd : Below w2.heap.size w2 w2.drew := (Below.refl _ _).drew
          go_wp2_with fail
          go_region_held3 (fun w' : World => w'.cell? ⟨w.heap.size, 0, none⟩ = some (.slice ca cn cc) ∧ w'.cell? ⟨w.heap.size, 1, none⟩ = some (.int .i64 due) ∧ w'.cell? ⟨w.heap.size, 2, none⟩ = some (.int .i64 delay) ∧ w'.cell? ⟨bt, ot + k * 2, none⟩ = some (.int .i64 f) ∧ w'.cell? ⟨bt, ot + k * 2 + 1, none⟩ = some (.int .i64 to) ∧ w'.cell? ⟨ba, off + k, none⟩ = some (.int .i64 (x : Int))) (exact ⟨y0, y1, y2, e1, e2, e3⟩) (first | (go_at_call 69; replace y0 := cell_grown hBd y0; replace y1 := cell_grown hBd y1; replace y2 := cell_grown hBd y2; replace e1 := cell_grown hBd e1; replace e2 := cell_grown hBd e2; replace e3 := cell_grown hBd e3; refine (hwst _ (hCw.grown hBd)).mono ?_; rintro e w4 ⟨rfl, hb4⟩; replace y0 := cell_grown hb4 y0; replace y1 := cell_grown hb4 y1; replace y2 := cell_grown hb4 y2; replace e1 := cell_grown hb4 e1; replace e2 := cell_grown hb4 e2; replace e3 := cell_grown hb4 e3; have hb24 := hBd.trans (hb4.mono hBd.size)))
          have own4 := ownsRow_below own2 hb24
          have hB4 : Below (w.heap.size + 1) W0 w4 := hB2.trans (hb24.mono (by omega))
          have hz4 := hB4.size
          clear hBd hb4 hb24 own2 hwst hCw
          go_wp2_with (at_builtin; refine wpList_append_own _ rfl _ _ 53 rfl (w.heap.size + 1) 3 i3 (.int .i64 0) 1 8 Try.underlying53 hi3 hi3a hi3b hi3c rfl (by decide) _ (O k).length _ rfl (own4.alloc _) ⟨w4.heap.size, 0, none⟩ 1 1 [.int .i64 (k : Int)] rfl rfl (cell_one_new _ _ _ _ rfl) (fun x hx => by simp at hx; subst hx; rfl) (by unfold maxLen; omega) (by omega) (by simp; omega) ?_; intro v' w3 hown' hgrow hnil; have hb3 := below_of_grown hB4 own4 hgrow (by omega); clear hgrow hnil)
          go_roundw
          case rel => exact ⟨k + 1, by omega, by go_num, by rw [HNX.out]; exact (by simpa [natVs] using hown'), hb3⟩
          case measure => simp [intOf]; omega
        · have HNX : Hid (O (k + 1) = O k) := hid (by rw [HN.out]; simp [h3])
          subst h1
          have h3' : decide (second < l) = false := by simpa using h3
          clear HN
          have hBd : Below w2.heap.size w2 w2.drew := (Below.refl _ _).drew
          go_wp2_with fail
          go_region_held3 (fun w' : World => w'.cell? ⟨w.heap.size, 0, none⟩ = some (.slice ca cn cc) ∧ w'.cell? ⟨w.heap.size, 1, none⟩ = some (.int .i64 due) ∧ w'.cell? ⟨w.heap.size, 2, none⟩ = some (.int .i64 delay) ∧ w'.cell? ⟨bt, ot + k * 2, none⟩ = some (.int .i64 f) ∧ w'.cell? ⟨bt, ot + k * 2 + 1, none⟩ = some (.int .i64 to) ∧ w'.cell? ⟨ba, off + k, none⟩ = some (.int .i64 (x : Int))) (exact ⟨y0, y1, y2, e1, e2, e3⟩) (first | (go_at_call 69; replace y0 := cell_grown hBd y0; replace y1 := cell_grown hBd y1; replace y2 := cell_grown hBd y2; replace e1 := cell_grown hBd e1; replace e2 := cell_grown hBd e2; replace e3 := cell_grown hBd e3; refine (hwst _ (hCw.grown hBd)).mono ?_; rintro e w4 ⟨rfl, hb4⟩; replace y0 := cell_grown hb4 y0; replace y1 := cell_grown hb4 y1; replace y2 := cell_grown hb4 y2; replace e1 := cell_grown hb4 e1; replace e2 := cell_grown hb4 e2; replace e3 := cell_grown hb4 e3; have hb24 := hBd.trans (hb4.mono hBd.size)))
          have own4 := ownsRow_below own2 hb24
          have hB4 : Below (w.heap.size + 1) W0 w4 := hB2.trans (hb24.mono (by omega))
          have hz4 := hB4.size
          clear hBd hb4 hb24 own2 hwst hCw
          go_wp2_with fail
          go_roundw
          case rel => exact ⟨k + 1, by omega, by go_num, by rw [HNX.out]; exact own4, hB4⟩
          case measure => simp [intOf]; omega
      · have HNX : Hid (O (k + 1) = O k) := hid (by rw [HN.out]; simp [h1])
        have h1' : ¬ (x : Int) = (rel : Int) := by omega
        have h1b : ((x : Int) == (rel : Int)) = false := by simpa using h1'
        clear HN
        go_wp2_with fail
        go_big_quiet (fail)
        have hBq : Below w2.heap.size w2 (w2.drewN nq) := below_drewN (Below.refl _ _) _
        obtain ⟨wq, hwq⟩ : ∃ W, w2.drewN nq = W := ⟨_, rfl⟩
        rw [hwq] at hBq ⊢
        clear hwq
        go_wp2_with fail
        go_roundw
        case rel => exact ⟨k + 1, by omega, by go_num, by rw [HNX.out]; exact ownsRow_below own2 hBq, hB2.trans (hBq.mono (by omega))⟩
        case measure => simp [intOf]; omega
    · have hkn : k = nb := by omega
      subst hkn
      obtain ⟨va, vc, hv⟩ := owns_shape own2
      subst hv
      have HI := hid (ints_of_owns own2)
      clear own2
      go_wp2_with fail
      go_ret
      exact ⟨va, _, vc, rfl, rfl, HI.out, hBw2⟩

end Go.Proofs.Ytgapbaelifcifaa
